import Derived.Test.YtbifmhbkmnofiaaGreatMo
import Derived.Test.YtbifmhbkmnofiaaGreatMy
import Derived.Maps.AppendAt
import Derived.Shelf.RegionOpenPlain
import Derived.Deep.LoopGhost
import Derived.Lib.SliceRun
import Derived.Lib.SlicesDelete
namespace Go.Proofs.YtbifmhbkmnofiaaGreat
open Go.RowKit
set_option linter.unusedVariables false
set_option linter.unusedSimpArgs false
theorem Fr.of_ex2 {A B : Nat} {w w' : World} (h : Ex2 A B w w') : Fr (fun k => k = A ∨ k = B) w w' := ⟨h.os, h.tape, h.output, h.size, fun k hk hB => h.block k hk (fun e => hB (.inl e)) (fun e => hB (.inr e))⟩
/-- a guard inside a well: two cells ahead of it, two behind it -/
def GwAt (w : World) (A : Nat) (p0 p1 q0 q1 : Value) (g : Gd) : Prop := WsAt w A [p0, p1, .int .i64 g.st, .int .i64 g.wi, .int .i64 g.sk] [.bool g.br, q0, q1] g.x
theorem GwAt.lims {w : World} {A : Nat} {p0 p1 q0 q1 : Value} {g : Gd} (h : GwAt w A p0 p1 q0 q1 g) : w.cell? ⟨A, 2, none⟩ = some (.int .i64 g.st) ∧ w.cell? ⟨A, 3, none⟩ = some (.int .i64 g.wi) ∧ w.cell? ⟨A, 4, none⟩ = some (.int .i64 g.sk) ∧ w.cell? ⟨A, 5, none⟩ = some (.int .u8 g.x.s) ∧ w.cell? ⟨A, 6, none⟩ = some (.int .i64 g.x.t) ∧ w.cell? ⟨A, 7, none⟩ = some (.int .u8 g.x.f) ∧ w.cell? ⟨A, 8, none⟩ = some (.int .i64 g.x.n) ∧ w.cell? ⟨A, 9, none⟩ = some (.int .i64 g.x.c) ∧ w.cell? ⟨A, 10, none⟩ = some (.bool g.br) := by
  obtain ⟨ty, h⟩ := h
  refine ⟨?_, ?_, ?_, ?_, ?_, ?_, ?_, ?_, ?_⟩ <;> (rw [cell_of_row _ _ _ _ _ _ h]; rfl)
theorem GwAt.rest {w : World} {A : Nat} {p0 p1 q0 q1 : Value} {g : Gd} (h : GwAt w A p0 p1 q0 q1 g) : w.cell? ⟨A, 0, none⟩ = some p0 ∧ w.cell? ⟨A, 1, none⟩ = some p1 ∧ w.cell? ⟨A, 11, none⟩ = some q0 ∧ w.cell? ⟨A, 12, none⟩ = some q1 := by
  obtain ⟨ty, h⟩ := h
  refine ⟨?_, ?_, ?_, ?_⟩ <;> (rw [cell_of_row _ _ _ _ _ _ h]; rfl)
theorem GwAt.set0 {w : World} {A : Nat} {p0 p1 q0 q1 : Value} {g : Gd} (h : GwAt w A p0 p1 q0 q1 g) (v : Value) : GwAt (w.setCell ⟨A, 11, none⟩ v) A p0 p1 v q1 g := by
  obtain ⟨ty, h⟩ := h
  exact ⟨ty, row_set h _ _⟩
theorem GwAt.set1 {w : World} {A : Nat} {p0 p1 q0 q1 : Value} {g : Gd} (h : GwAt w A p0 p1 q0 q1 g) (v : Value) : GwAt (w.setCell ⟨A, 12, none⟩ v) A p0 p1 q0 v g := by
  obtain ⟨ty, h⟩ := h
  exact ⟨ty, row_set h _ _⟩
theorem GwAt.frozen {w : World} {A : Nat} {p0 p1 q0 q1 : Value} {g : Gd} (h : GwAt w A p0 p1 q0 q1 g) (j : Nat) : w.frozen? ⟨A, j, none⟩ = false := WsAt.frozen h j
theorem GwAt.lt {w : World} {A : Nat} {p0 p1 q0 q1 : Value} {g : Gd} (h : GwAt w A p0 p1 q0 q1 g) : A < w.heap.size := WsAt.lt h
theorem GwAt.other {w w' : World} {A : Nat} {p0 p1 q0 q1 : Value} {g : Gd} (h : GwAt w A p0 p1 q0 q1 g) (he : w'.heap[A]? = w.heap[A]?) : GwAt w' A p0 p1 q0 q1 g := WsAt.other h he
/-- the guard inside a well is written anew, whole -/
def wrW (w : World) (A : Nat) (st wi sk : Int) (br : Bool) : World :=
  ((((((((w.setCell ⟨A, 2, none⟩ (.int .i64 st)).setCell ⟨A, 3, none⟩ (.int .i64 wi)).setCell ⟨A, 4, none⟩ (.int .i64 sk)).setCell ⟨A, 5, none⟩ (.int .u8 0)).setCell ⟨A, 6, none⟩ (.int .i64 0)).setCell ⟨A, 7, none⟩ (.int .u8 0)).setCell ⟨A, 8, none⟩ (.int .i64 0)).setCell ⟨A, 9, none⟩ (.int .i64 0)).setCell ⟨A, 10, none⟩ (.bool br)
theorem wrW_at {w : World} {A : Nat} {p0 p1 q0 q1 : Value} {g : Gd} (h : GwAt w A p0 p1 q0 q1 g) (st wi sk : Int) (br : Bool) : GwAt (wrW w A st wi sk br) A p0 p1 q0 q1 ⟨st, wi, sk, W0, br⟩ := by
  obtain ⟨ty, h⟩ := h
  exact ⟨ty, row_set (row_set (row_set (row_set (row_set (row_set (row_set (row_set (row_set h _ _) _ _) _ _) _ _) _ _) _ _) _ _) _ _) _ _⟩
theorem wrW_ex (w : World) (A : Nat) (st wi sk : Int) (br : Bool) : Ex A w (wrW w A st wi sk br) :=
  (((((((((Ex.refl A w).setCell 2 _).setCell 3 _).setCell 4 _).setCell 5 _).setCell 6 _).setCell 7 _).setCell 8 _).setCell 9 _).setCell 10 _
set_option maxRecDepth 20000 in
set_option maxHeartbeats 1000000 in
theorem wgfeed_dead (g : Gd) (A : Nat) (a : Option Addr) (n c : Nat) (w : World) {p0 p1 q0 q1 : Value} (h : GwAt w A p0 p1 q0 q1 g) (hb : g.br = true) :
    Calls Tryz.prog 40 #[.pointer (some ⟨A, 2, none⟩), .slice a n c] w fun e w' => e = .returned (.tuple #[.int .i64 0, .int .i64 6]) ∧ w' = w := by
  obtain ⟨_, _, _, _, _, _, _, _, c8⟩ := h.lims
  rw [hb] at c8
  clear h
  go_enter Tryz.func40, Tryz.ntmps40
  go_wp2
  go_ret2
  exact ⟨rfl, rfl⟩
set_option maxRecDepth 20000 in
set_option maxHeartbeats 1000000 in
theorem wgfeed_many (g : Gd) (A : Nat) (a : Option Addr) (n c : Nat) (w : World) {p0 p1 q0 q1 : Value} (h : GwAt w A p0 p1 q0 q1 g) (hb : g.br = false) (hn : 200 < n) :
    Calls Tryz.prog 40 #[.pointer (some ⟨A, 2, none⟩), .slice a n c] w fun e w' => e = .returned (.tuple #[.int .i64 0, .int .i64 2]) ∧ w' = w := by
  obtain ⟨_, _, _, _, _, _, _, _, c8⟩ := h.lims
  rw [hb] at c8
  clear h
  go_enter Tryz.func40, Tryz.ntmps40
  go_wp2
  go_ret2
  exact ⟨rfl, rfl⟩

set_option maxRecDepth 20000 in
set_option maxHeartbeats 1000000 in
theorem wgfeed_take (g : Gd) (A : Nat) (v : Value) (xs : List Int) (w : World) {p0 p1 q0 q1 : Value} (h : GwAt w A p0 p1 q0 q1 g) (hb : g.br = false) (hv : Byt w v xs) (hvB : ∀ ad n c, v = .slice (some ad) n c → 0 < n → ad.block ≠ A) (hl : xs.length ≤ 200) (hx : g.x.ok g.st g.wi g.sk) (hst : g.st ≤ 50) (hwi : 2 ≤ g.wi) (hwi2 : g.wi ≤ 50) (hsk : g.sk ≤ 50) :
    Calls Tryz.prog 40 #[.pointer (some ⟨A, 2, none⟩), v] w fun e w' => e = .returned (.tuple #[.int .i64 (fedG g xs).1, .int .i64 (fedG g xs).2.1]) ∧ GwAt w' A p0 p1 q0 q1 (fedG g xs).2.2 ∧ Ex A w w' := by
  obtain ⟨c0, c1, c2, _, _, _, _, _, c8⟩ := h.lims
  rw [hb] at c8
  have T := hid (take_any g.x g.st g.wi g.sk v xs A 5 _ _ w.drew (show WsAt w.drew A _ _ _ from h) rfl (show Byt w.drew v xs from hv) hvB (by omega) hx hst hwi hwi2 hsk)
  obtain ⟨a, cap, rfl, _⟩ := hv.form2
  have hl' : ¬ 200 < (xs.length : Int) := by omega
  clear hv hvB h
  go_enter Tryz.func40, Tryz.ntmps40
  go_wp2_with fail
  refine wp_region_held_drew (S := fun w => w.cell? ⟨A, 2, none⟩ = some (.int .i64 g.st) ∧ w.cell? ⟨A, 3, none⟩ = some (.int .i64 g.wi) ∧ w.cell? ⟨A, 4, none⟩ = some (.int .i64 g.sk)) (by kernel_rfl) ⟨c0, c1, c2⟩ (fun hSw => ?_)
  refine wpAnyH_take (i := 0) (v := ?_) rfl (by decide +kernel) (by decide +kernel) (by decide +kernel) (fun _ _ _ h => h) (Or.inl ⟨by rfl, ?_⟩) hSw ?_
  rotate_left
  · intro w hw; go_simp; try with_reducible rfl
  simp only [Act.put, List.getElem_toArray, List.getElem_cons_zero, List.getElem_cons_succ, List.setIfInBounds_toArray, List.set_cons_zero, List.set_cons_succ]
  refine wpAnyH_take (i := 1) (v := ?_) rfl (by decide +kernel) (by decide +kernel) (by decide +kernel) (fun _ _ _ h => h) (Or.inl ⟨by rfl, ?_⟩) hSw ?_
  rotate_left
  · intro w hw; go_simp; try with_reducible rfl
  simp only [Act.put, List.getElem_toArray, List.getElem_cons_zero, List.getElem_cons_succ, List.setIfInBounds_toArray, List.set_cons_zero, List.set_cons_succ]
  refine wpAnyH_take (i := 2) (v := ?_) rfl (by decide +kernel) (by decide +kernel) (by decide +kernel) (fun _ _ _ h => h) (Or.inl ⟨by rfl, ?_⟩) hSw ?_
  rotate_left
  · intro w hw; go_simp; try with_reducible rfl
  simp only [Act.put, List.getElem_toArray, List.getElem_cons_zero, List.getElem_cons_succ, List.setIfInBounds_toArray, List.set_cons_zero, List.set_cons_succ]
  refine wpAnyH_take (i := 3) (v := ?_) rfl (by decide +kernel) (by decide +kernel) (by decide +kernel) (fun _ _ _ h => h) (Or.inl ⟨by rfl, ?_⟩) hSw ?_
  rotate_left
  · intro w hw; go_simp; try with_reducible rfl
  simp only [Act.put, List.getElem_toArray, List.getElem_cons_zero, List.getElem_cons_succ, List.setIfInBounds_toArray, List.set_cons_zero, List.set_cons_succ]
  refine wpAnyH_take (i := 4) (v := ?_) rfl (by decide +kernel) (by decide +kernel) (by decide +kernel) (fun _ _ _ h => h) (Or.inl ⟨by rfl, ?_⟩) hSw ?_
  rotate_left
  · intro w hw; go_simp; try with_reducible rfl
  simp only [Act.put, List.getElem_toArray, List.getElem_cons_zero, List.getElem_cons_succ, List.setIfInBounds_toArray, List.set_cons_zero, List.set_cons_succ]
  refine wpAnyH_take (i := 5) (v := ?_) rfl (by decide +kernel) (by decide +kernel) (by decide +kernel) (fun _ _ _ h => h) (Or.inl ⟨by rfl, ?_⟩) hSw ?_
  rotate_left
  · intro w hw; go_simp; try with_reducible rfl
  simp only [Act.put, List.getElem_toArray, List.getElem_cons_zero, List.getElem_cons_succ, List.setIfInBounds_toArray, List.set_cons_zero, List.set_cons_succ]
  refine wpAnyH_take (i := 6) (v := ?_) rfl (by decide +kernel) (by decide +kernel) (by decide +kernel) (fun _ _ _ h => h) (Or.inl ⟨by rfl, ?_⟩) hSw ?_
  rotate_left
  · intro w hw; go_simp; try with_reducible rfl
  simp only [Act.put, List.getElem_toArray, List.getElem_cons_zero, List.getElem_cons_succ, List.setIfInBounds_toArray, List.set_cons_zero, List.set_cons_succ]
  refine wpAnyH_take (i := 7) (v := ?_) rfl (by decide +kernel) (by decide +kernel) (by decide +kernel) (fun _ _ _ h => h) (Or.inl ⟨by rfl, ?_⟩) hSw ?_
  rotate_left
  · intro w hw; obtain ⟨hc0, hc1, hc2⟩ := hw; go_simp; try with_reducible rfl
  simp only [Act.put, List.getElem_toArray, List.getElem_cons_zero, List.getElem_cons_succ, List.setIfInBounds_toArray, List.set_cons_zero, List.set_cons_succ]
  refine wpAnyH_ready (rs := [8]) (by kernel_rfl) (by simp) ?_
  refine AllReadyH.cons rfl (fun K hK => ?_) AllReadyH.nil
  go_simp
  refine T.out.mono ?_
  rintro e w2 ⟨rfl, hW2, hE2⟩
  have hG2 : GwAt w2 A p0 p1 q0 q1 ⟨g.st, g.wi, g.sk, (takeW g.st g.wi g.sk g.x xs 0).1, false⟩ := by rw [← hb]; exact hW2
  obtain ⟨d0, d1, d2, d3, d4, d5, d6, d7, d8⟩ := hG2.lims
  refine hK.out _ _ ⟨d0, d1, d2⟩ (fun hSw => ?_)
  clear hK K T
  refine wpAnyH_take (i := 9) (v := ?_) rfl (by decide +kernel) (by decide +kernel) (by decide +kernel) (fun _ _ _ h => h) (Or.inl ⟨by rfl, ?_⟩) hSw ?_
  rotate_left
  · intro w hw; go_simp; try with_reducible rfl
  simp only [Act.put, List.getElem_toArray, List.getElem_cons_zero, List.getElem_cons_succ, List.setIfInBounds_toArray, List.set_cons_zero, List.set_cons_succ]
  refine wpAnyH_done (by kernel_rfl) ?_ _
  have HE2 : Hd (Ex A w w2) := hid ((Ex.refl A w).drew.trans hE2)
  clear hW2 hE2 hSw c0 c1 c2 c8
  dsimp only at d0 d1 d2 d3 d4 d5 d6 d7 d8
  rcases hT : takeW g.st g.wi g.sk g.x xs 0 with ⟨y, _ | ⟨b, k⟩⟩
  · rw [hT] at hG2
    have he : fedG g xs = ((xs.length : Int), 0, ⟨g.st, g.wi, g.sk, y, false⟩) := by unfold fedG; rw [hT]
    have He := hid he
    have HG := hid hG2
    clear hG2 d0 d1 d2 d3 d4 d5 d6 d7 d8 he hT
    dsimp only [faultV]
    go_wp2
    go_ret2
    rw [He.out]
    exact ⟨rfl, HG.out, HE2.out⟩
  · rw [hT] at hG2 d3 d4 d5 d6 d7
    dsimp only at d3 d4 d5 d6 d7
    cases b
    · have he : fedG g xs = ((k : Int), 4, ⟨g.st, g.wi, g.sk, W0, true⟩) := by unfold fedG; rw [hT]
      have He := hid he
      have HG := hid (wrW_at hG2 g.st g.wi g.sk true)
      have HX := hid (HE2.out.trans (wrW_ex w2 A g.st g.wi g.sk true))
      have f := fun j => WsAt.frozen hG2 (j + 2)
      have f0 := f 0
      have f1 := f 1
      have f2 := f 2
      have f3 := f 3
      have f4 := f 4
      have f5 := f 5
      have f6 := f 6
      have f7 := f 7
      have f8 := f 8
      have hme := Tryz.mAhead1 (k : Int)
      clear f hG2 he hT HE2 hl'
      dsimp only [faultV]
      go_wp2_with fail
      change Calls _ _ _ (wrW w2 A g.st g.wi g.sk true) _
      generalize wrW w2 A g.st g.wi g.sk true = w3 at *
      refine (ahead1 (k : Int) w3).mono ?_
      rintro e w4 ⟨rfl, rfl⟩
      clear hme f0 f1 f2 f3 f4 f5 f6 f7 f8 d0 d1 d2 d3 d4 d5 d6 d7 d8
      go_wp2_with fail
      refine (fault1 (k : Int) _).mono ?_
      rintro e w5 ⟨rfl, rfl⟩
      go_wp2
      go_ret2
      rw [He.out]
      exact ⟨rfl, HG.out, HX.out⟩
    · have he : fedG g xs = ((k : Int), 5, ⟨g.st, g.wi, g.sk, W0, true⟩) := by unfold fedG; rw [hT]
      have He := hid he
      have HG := hid (wrW_at hG2 g.st g.wi g.sk true)
      have HX := hid (HE2.out.trans (wrW_ex w2 A g.st g.wi g.sk true))
      have f := fun j => WsAt.frozen hG2 (j + 2)
      have f0 := f 0
      have f1 := f 1
      have f2 := f 2
      have f3 := f 3
      have f4 := f 4
      have f5 := f 5
      have f6 := f 6
      have f7 := f 7
      have f8 := f 8
      have hme := Tryz.mAhead2 (k : Int)
      clear f hG2 he hT HE2 hl'
      dsimp only [faultV]
      go_wp2_with fail
      change Calls _ _ _ (wrW w2 A g.st g.wi g.sk true) _
      generalize wrW w2 A g.st g.wi g.sk true = w3 at *
      refine (ahead2 (k : Int) w3).mono ?_
      rintro e w4 ⟨rfl, rfl⟩
      clear hme f0 f1 f2 f3 f4 f5 f6 f7 f8 d0 d1 d2 d3 d4 d5 d6 d7 d8
      go_wp2_with fail
      refine (fault2 (k : Int) _).mono ?_
      rintro e w5 ⟨rfl, rfl⟩
      go_wp2
      go_ret2
      rw [He.out]
      exact ⟨rfl, HG.out, HX.out⟩
end Go.Proofs.YtbifmhbkmnofiaaGreat
namespace Go.Proofs.YtbifmhbkmnofiaaGreat
open Go.RowKit Go.Lib Go.Sort
set_option linter.unusedVariables false
set_option linter.unusedSimpArgs false
theorem zeroB (w : World) : (zeroValue 5).run Tryz.prog w = .ok (.int .u8 0) w := by kernel_rfl
set_option maxHeartbeats 1000000 in
/-- Delete of nothing -/
theorem delete_none (a : Option Addr) (n cap : Nat) (w : World) (hcap : n ≤ cap) (hm : cap ≤ 9223372036854775807) :
    Calls Tryz.prog 86 #[.slice a n cap, .int .i64 0, .int .i64 0] w fun e w' => e = .returned (.slice a n cap) ∧ w' = w := by
  go_enter Tryz.func86, Tryz.ntmps86
  go_wp2
  all_goals (go_ret; exact ⟨rfl, rfl⟩)
set_option maxHeartbeats 4000000 in
set_option maxRecDepth 1000000 in
theorem delete_some (blk cap j : Nat) (d : Array Int) (w : World) (hH : Holds (Value.int .u8) w blk 0 d) (hcap : d.size ≤ cap) (hm : cap ≤ 9223372036854775807) (h0 : 0 < j) (hj : j ≤ d.size) :
    Calls Tryz.prog 86 #[.slice (some ⟨blk, 0, none⟩) d.size cap, .int .i64 0, .int .i64 j] w fun e w' => e = .returned (.slice (some ⟨blk, 0, none⟩) (d.size - j) cap) ∧ ∃ q, w' = putRow (Value.int .u8) (Sort.ahead w q) blk 0 (d.toList.drop j ++ List.replicate j 0).toArray := by
  obtain ⟨i0, hi0, hz0, hz1, hz2⟩ := info_parts Tryz.infoB
  obtain ⟨news, hnews⟩ : ∃ news, news = (d.toList.drop j).map (Value.int .u8) := ⟨_, rfl⟩
  have hlen : news.length = d.size - j := by rw [hnews]; simp
  have hget : ∀ t, t < d.size - j → news[t]? = some (.int .u8 d[j + t]!) := by
    intro t ht
    rw [hnews, List.getElem?_map, List.getElem?_drop, Array.getElem?_toList, getElem!_pos d (j + t) (by omega), Array.getElem?_eq_getElem (by omega)]
    rfl
  obtain ⟨A, hA, hsrc⟩ : ∃ A : Addr, (if cap = j then some (⟨blk, 0, none⟩ : Addr) else some ⟨blk, j, none⟩) = some A ∧ Hd (∀ t u, news[t]? = some u → w.drew.cell? (A.add t) = some u) := by
    by_cases h : cap = j
    · refine ⟨⟨blk, 0, none⟩, by simp [h], hid fun t u hu => ?_⟩
      have h0 : news.length = 0 := by rw [hlen]; omega
      rw [List.length_eq_zero_iff.1 h0] at hu
      simp at hu
    · refine ⟨⟨blk, j, none⟩, by simp [h], hid fun t u hu => ?_⟩
      have ht : t < d.size - j := by
        have := (List.getElem?_eq_some_iff.1 hu).1
        rwa [hlen] at this
      rw [hget t ht] at hu
      rw [Addr.add_lit]
      have := (hH (j + t) (by omega)).1
      rw [Nat.zero_add] at this
      exact this.trans hu
  have s1 : Hd (news.length = (d.size - j) * 1) := hid (by rw [Nat.mul_one]; exact hlen)
  have s2 : Hd (∀ u ∈ news, u.oneCell' = true) := hid (by
    intro u hu
    rw [hnews] at hu
    obtain ⟨x, _, rfl⟩ := List.mem_map.1 hu
    rfl)
  have s3 : Hd (∀ t, t < news.length → (w.drew.cell? ⟨blk, 0 + 0 * 1 + t, none⟩).isSome = true ∧ w.drew.frozen? ⟨blk, 0 + 0 * 1 + t, none⟩ = false) := hid (by
    intro t ht
    rw [hlen] at ht
    rw [Nat.mul_one, Nat.add_assoc]
    exact ⟨by show (w.cell? _).isSome = true; rw [Nat.zero_add, (hH t (by omega)).1]; rfl, by rw [Nat.zero_add]; exact (hH t (by omega)).2⟩)
  obtain ⟨W1, hW1⟩ : ∃ W1, W1 = w.drew.setCells blk (0 + 0 * 1) news := ⟨_, rfl⟩
  have hW1' : W1 = putRow (Value.int .u8) (Sort.ahead w 1) blk 0 (lay d 0 (d.toList.drop j)) := by
    rw [hW1, hnews, Nat.mul_one, ← putRow_setCells (Value.int .u8) (Sort.ahead w 1) blk 0 _ d 0 (by simp), putRow_self (Value.int .u8) (Sort.ahead w 1) blk 0 d (holds_ahead (Value.int .u8) w 1 blk 0 d hH)]
    rfl
  have hH1 : Holds (Value.int .u8) W1 blk 0 (lay d 0 (d.toList.drop j)) := by rw [hW1']; exact holds_putRow (Value.int .u8) _ blk 0 d _ (holds_ahead (Value.int .u8) w 1 blk 0 d hH) (lay_size _ _ _)
  have hcl : ∀ ty, (Builtin.clear_ #[41] ty #[.slice (some ⟨blk, d.size - j, none⟩) (d.size - (d.size - j)) (cap - (d.size - j))]).run Tryz.prog W1 = .ok (.tuple #[]) (W1.setCells blk (d.size - j) (List.replicate (d.size - (d.size - j)) (.int .u8 0))) :=
    fun ty => Lib.run_clear_slice W1 _ _ ty _ Tryz.underlying41 zeroB rfl rfl blk (d.size - j) _ _ (by omega) (fun t ht => by have := (hH1 (d.size - j + t) (by rw [lay_size]; omega)).1; rw [Nat.zero_add] at this; rw [this]; rfl) (fun t ht => by have := (hH1 (d.size - j + t) (by rw [lay_size]; omega)).2; rw [Nat.zero_add] at this; exact this)
  have X : Hd (W1 = putRow (Value.int .u8) (Sort.ahead w 1) blk 0 (lay d 0 (d.toList.drop j))) := hid hW1'
  have hW : Hd (W1 = w.drew.setCells blk (0 + 0 * 1) news) := hid hW1
  have hjc : j ≤ cap := by omega
  have hne : ¬ (0 : Int) = (j : Int) := by omega
  clear hW1 hW1' hH1 hH hget hnews hlen
  go_enter Tryz.func86, Tryz.ntmps86
  go_wp2_with fail
  go_region_law (refine step_append_room rfl (.tmp 22) (.tmp 25) 41 rfl 5 i0 1 Tryz.underlying41 hi0 hz1 blk 0 0 cap (by simp [Act.eval, Act.put]) A (d.size - j) (cap - j) news (by simp [Act.eval, Act.put]) s1.out hsrc.out s2.out (by omega) s3.out ?_; rw [← hW.out])
  go_wp2
  go_ret
  refine ⟨rfl, 1, ?_⟩
  have e := delete_arr d 0 j (0 : Int) (by omega) hj
  rw [Nat.sub_zero, Nat.zero_add, List.take_zero, List.nil_append] at e
  rw [← e, ← putRow_setCells (Value.int .u8) _ blk 0 _ _ (d.size - j) (by rw [lay_size]; simp; omega), ← X.out, List.map_replicate, Nat.zero_add, show d.size - (d.size - j) = j by omega]
theorem OwnB.slice {w : World} {N : Nat} {v : Value} {xs : List Int} (h : OwnB w N v xs) : ∃ a cap, v = .slice a xs.length cap ∧ xs.length ≤ cap ∧ cap ≤ 9223372036854775807 := by
  rcases h.2 with ⟨rfl, h0⟩ | ⟨g, cap, cur, rfl, hb, hg, hn, hm, hs, ht⟩
  · exact ⟨none, 0, by rw [h0], by omega, by omega⟩
  · exact ⟨_, cap, rfl, hn, hm⟩
theorem OwnB.holds {w : World} {N g cap : Nat} {xs : List Int} (h : OwnB w N (.slice (some ⟨g, 0, none⟩) xs.length cap) xs) : Holds (Value.int .u8) w g 0 xs.toArray := by
  rcases h.2 with ⟨h0, _⟩ | ⟨g', cap', cur, hv, hb, hg, hn, hm, hs, ht⟩
  · cases h0
  · cases hv
    intro k hk
    have hk' : k < xs.length := by simpa using hk
    rw [Nat.zero_add]
    refine ⟨?_, by simp [World.frozen?, hg]⟩
    rw [cell_of_row w g k _ _ _ hg]
    have h2 := congrArg (fun l => l[k]?) ht
    simp only [Nat.mul_one, List.getElem?_take, hk', if_pos, List.getElem?_map, Array.getElem?_toList] at h2
    rw [h2, List.getElem?_eq_getElem hk', getElem!_pos _ k (by simpa using hk')]
    simp
/-- slices.Delete of the first ones, of a list that is one's own -/
theorem delete_any (N j : Nat) (v : Value) (xs : List Int) (w : World) (h : OwnB w N v xs) (hj : j ≤ xs.length) :
    Calls Tryz.prog 86 #[v, .int .i64 0, .int .i64 j] w fun e w' => ∃ v', e = .returned v' ∧ OwnB w' N v' (xs.drop j) ∧ v'.ownBlock = v.ownBlock ∧ Fr (fun k => some k = v.ownBlock) w w' := by
  obtain ⟨a, cap, rfl, hc, hm⟩ := h.slice
  by_cases h0 : j = 0
  · subst h0
    refine (delete_none a xs.length cap w hc hm).mono ?_
    rintro e w' ⟨rfl, rfl⟩
    exact ⟨_, rfl, by rw [List.drop_zero]; exact h, rfl, Fr.refl _ _⟩
  · rcases h.2 with ⟨hv, h1⟩ | ⟨g, cap', cur, hv, hb, hg, hn, hm', hs, ht⟩
    · omega
    · cases hv
      refine (delete_some g cap j xs.toArray w h.holds (by simpa using hc) hm (by omega) (by simpa using hj)).mono ?_
      rintro e w' ⟨rfl, q, rfl⟩
      have hsz : (xs.drop j ++ List.replicate j 0).toArray.size = xs.length := by simp; omega
      have hg2 : (putRow (Value.int .u8) (Sort.ahead w q) g 0 (xs.drop j ++ List.replicate j 0).toArray).heap[g]? = some (.cells (putCells (Value.int .u8) 0 (xs.drop j ++ List.replicate j 0).toArray cur) 5 (0, 0)) := by
        simp [putRow, mapBlock, Sort.ahead, Array.getElem?_modify, hg, onCells]
      refine ⟨_, rfl, ⟨by simp, .inr ⟨g, cap, _, by simp, hb, hg2, by simp; omega, hm', by simp only [putCells, Array.size_mapIdx]; exact hs, ?_⟩⟩, rfl, ⟨rfl, rfl, rfl, by simp [putRow, mapBlock, Sort.ahead], fun k hk hne => ?_⟩⟩
      · apply List.ext_getElem?
        intro t
        rw [Nat.mul_one, List.getElem?_take, List.getElem?_map]
        by_cases hlt : t < (xs.drop j).length
        · have hl2 : t < cur.size := by rw [hs]; simp at hlt; omega
          rw [if_pos hlt, Array.getElem?_toList, putCells, Array.getElem?_mapIdx, Array.getElem?_eq_getElem hl2, Option.map_some, if_pos ⟨by omega, by rw [hsz]; simp at hlt; omega⟩, List.getElem?_eq_getElem hlt, Option.map_some, Nat.sub_zero, getElem!_pos _ t (by rw [hsz]; simp at hlt; omega)]
          simp only [List.getElem_toArray]
          rw [List.getElem_append_left hlt]
        · rw [if_neg hlt, List.getElem?_eq_none (by omega)]; rfl
      · have hne' : g ≠ k := fun e => hne (by rw [e]; rfl)
        simp [putRow, mapBlock, Sort.ahead, Array.getElem?_modify, hne']
end Go.Proofs.YtbifmhbkmnofiaaGreat
namespace Go.Proofs.YtbifmhbkmnofiaaGreat
open Go.RowKit
set_option linter.unusedVariables false
set_option linter.unusedSimpArgs false
/-- what is kept: the last two hundred -/
def keepL (xs : List Int) : List Int := xs.drop (xs.length - 200)
theorem keepL_len (xs : List Int) : (keepL xs).length ≤ 200 := by simp [keepL]; omega
theorem OwnB.own {w : World} {N : Nat} {v : Value} {xs : List Int} (h : OwnB w N v xs) : ∀ b, v.ownBlock = some b → N ≤ b ∧ b < w.heap.size := fun b hb => World.ownsRow.lt h b hb
theorem OwnB.other {w w' : World} {N : Nat} {v : Value} {xs : List Int} (h : OwnB w N v xs) (he : ∀ b, v.ownBlock = some b → w'.heap[b]? = w.heap[b]?) : OwnB w' N v xs := owns_other h he
theorem maxI (n : Int) : (if (0 : Int) < n then n else 0) = max 0 n := by split <;> omega
set_option maxRecDepth 20000 in
set_option maxHeartbeats 1000000 in
theorem keep_any (N A : Nat) (p0 p1 sv pv v : Value) (g : Gd) (xs ys : List Int) (w : World) (hG : GwAt w A p0 p1 sv pv g) (hO : OwnB w N sv xs) (hA : sv.ownBlock ≠ some A) (hv : Src w v ys) (hN : N ≤ w.heap.size) (hx : xs.length ≤ 200) (hy : ys.length ≤ 200) :
    Calls Tryz.prog 72 #[.pointer (some ⟨A, 0, none⟩), v] w fun e w' => e = .returned (.tuple #[]) ∧ ∃ sv', GwAt w' A p0 p1 sv' pv g ∧ OwnB w' N sv' (keepL (xs ++ ys)) ∧ (sv'.ownBlock = sv.ownBlock ∨ ∃ b, sv'.ownBlock = some b ∧ w.heap.size ≤ b) ∧ Fr (fun k => k = A ∨ some k = sv.ownBlock) w w' := by
  obtain ⟨i0, hi, hz0, hz1, hz2⟩ := info_parts Tryz.infoB
  obtain ⟨_, _, c11, _⟩ := hG.rest
  have hlt := hG.lt
  obtain ⟨a0, cap0, rfl, hle0, hm0⟩ := hO.slice
  have f11 := hG.frozen 11
  have HG := hid hG
  have HO := hid hO
  clear hG hO
  rcases hv with ⟨rfl, rfl⟩ | ⟨ad, cp, rfl, hnews⟩
  · have G1 := HG.out.set0 (.slice a0 xs.length cap0)
    have hA1 : (Value.slice a0 xs.length cap0).ownBlock ≠ some A := hA
    have O1 : OwnB (w.setCell ⟨A, 11, none⟩ (.slice a0 xs.length cap0)) N (.slice a0 xs.length cap0) xs := HO.out.other (fun b hb => Below.heap_setCell _ _ _ _ (fun e => hA (by rw [hb]; exact congrArg some e)))
    have F1 := hid ((Fr.of_ex ((Ex.refl A w).setCell 11 (.slice a0 xs.length cap0))).mono (T := fun k => k = A ∨ some k = (Value.slice a0 xs.length cap0).ownBlock) (fun k _ h => .inl h))
    have HG1 := hid G1
    have HO1 := hid O1
    clear G1 O1
    go_enter Tryz.func72, Tryz.ntmps72
    go_wp2_with (at_builtin; refine wpList_append_own_none rfl _ _ 41 rfl N 5 i0 1 Tryz.underlying41 hi _ _ _ rfl HO.out rfl ?_)
    generalize (w.setCell ⟨A, 11, none⟩ (.slice a0 xs.length cap0)) = w1 at *
    have O1 := HO1.out
    have G1 := HG1.out
    have hmax : max 0 ((xs.length : Int) - 200) = ((xs.length - 200 : Nat) : Int) := by omega
    rw [hmax]
    refine (delete_any N (xs.length - 200) _ xs _ O1 (by omega)).mono ?_
    rintro e w3 ⟨v3, rfl, O3, hb3, hF3⟩
    obtain ⟨a3, cap3, hv3, _, _⟩ := O3.slice
    generalize hn3 : (List.drop _ _).length = n3 at hv3
    clear hn3
    have G3 : GwAt w3 A p0 p1 _ pv g := G1.other (hF3.block A G1.lt (fun e => hA1 e.symm))
    have f3 := G3.frozen 11
    obtain ⟨_, _, c3, _⟩ := G3.rest
    have G4 := hid (G3.set0 v3)
    have O4 : Hd (OwnB (w3.setCell ⟨A, 11, none⟩ v3) N v3 (keepL xs)) := hid (O3.other (fun b hb => Below.heap_setCell _ _ _ _ (fun e => hA1 (by rw [← hb3, hb]; exact congrArg some e))))
    have hb4 := hid hb3
    have F4 := hid ((Fr.of_ex ((Ex.refl A w3).setCell 11 v3)).mono (T := fun k => k = A ∨ some k = (Value.slice a0 xs.length cap0).ownBlock) (fun k _ h => .inl h))
    have F3 := hid (hF3.mono (T := fun k => k = A ∨ some k = (Value.slice a0 xs.length cap0).ownBlock) (fun k _ h => .inr h))
    clear O3 G3 O1 G1 hF3 hb3
    subst hv3
    clear c11 f11 HO HG HG1 HO1 hmax
    go_wp2
    go_end0
    rw [List.append_nil]
    exact ⟨rfl, _, G4.out, O4.out, .inl hb4.out, (F1.out.trans F3.out).trans F4.out⟩
  · have Hnews := hid hnews
    clear hnews
    go_enter Tryz.func72, Tryz.ntmps72
    go_wp2_with (at_builtin; refine wpList_append_own_at _ rfl _ _ 41 rfl N 5 i0 (.int .u8 0) 1 1 Tryz.underlying41 hi hz0 hz1 hz2 rfl (by decide) _ _ _ rfl HO.out _ _ _ (ys.map (Value.int .u8)) rfl (by simp) Hnews.out (one_ints _ _) (by unfold maxLen; omega) (by omega) hN ?_)
    intro v1 w0 hown hgrow _ hat
    have O0 : OwnB w0 N v1 (xs ++ ys) := by
      unfold OwnB
      rw [List.length_append, List.map_append]
      exact hown
    have hA1 : v1.ownBlock ≠ some A := by
      rcases hat with h | h
      · rw [h]; exact hA
      · rw [h]; intro e; have := Option.some.inj e; omega
    have G0 : GwAt w0 A p0 p1 _ pv g := HG.out.other (hgrow.block A hlt (fun e => hA e.symm))
    have F0 := hid ((Fr.of_grown hgrow).mono (T := fun k => k = A ∨ some k = (Value.slice a0 xs.length cap0).ownBlock) (fun k _ h => .inr h))
    have hz0' := hgrow.size
    have f0 := G0.frozen 11
    obtain ⟨_, _, c0, _⟩ := G0.rest
    obtain ⟨a1, cap1, rfl, hle1, hm1⟩ := O0.slice
    have G1 := G0.set0 (.slice a1 (xs ++ ys).length cap1)
    have O1 : OwnB (w0.setCell ⟨A, 11, none⟩ (.slice a1 (xs ++ ys).length cap1)) N (.slice a1 (xs ++ ys).length cap1) (xs ++ ys) := O0.other (fun b hb => Below.heap_setCell _ _ _ _ (fun e => hA1 (by rw [hb]; exact congrArg some e)))
    have F1 := hid ((Fr.of_ex ((Ex.refl A w0).setCell 11 (.slice a1 (xs ++ ys).length cap1))).mono (T := fun k => k = A ∨ some k = (Value.slice a0 xs.length cap0).ownBlock) (fun k _ h => .inl h))
    have hlen : (xs ++ ys).length ≤ 400 := by rw [List.length_append]; omega
    have Hat := hid hat
    have HG1 := hid G1
    have HO1 := hid O1
    clear G1 O1 G0 O0 hown hgrow hat c11 f11 HO HG Hnews
    generalize hzs : xs ++ ys = zs at *
    have Hzs := hid hzs
    clear hzs
    go_wp2_with fail
    generalize (w0.setCell ⟨A, 11, none⟩ (.slice a1 zs.length cap1)) = w1 at *
    have O1 := HO1.out
    have G1 := HG1.out
    have hmax : max 0 ((zs.length : Int) - 200) = ((zs.length - 200 : Nat) : Int) := by omega
    rw [hmax]
    refine (delete_any N (zs.length - 200) _ zs _ O1 (by omega)).mono ?_
    rintro e w3 ⟨v3, rfl, O3, hb3, hF3⟩
    obtain ⟨a3, cap3, hv3, _, _⟩ := O3.slice
    generalize hn3 : (List.drop _ _).length = n3 at hv3
    clear hn3
    have G3 : GwAt w3 A p0 p1 _ pv g := G1.other (hF3.block A G1.lt (fun e => hA1 e.symm))
    have f3 := G3.frozen 11
    obtain ⟨_, _, c3, _⟩ := G3.rest
    have G4 := hid (G3.set0 v3)
    have O4 : Hd (OwnB (w3.setCell ⟨A, 11, none⟩ v3) N v3 (keepL zs)) := hid (O3.other (fun b hb => Below.heap_setCell _ _ _ _ (fun e => hA1 (by rw [← hb3, hb]; exact congrArg some e))))
    have hb4 := hid hb3
    have F4 := hid ((Fr.of_ex ((Ex.refl A w3).setCell 11 v3)).mono (T := fun k => k = A ∨ some k = (Value.slice a0 xs.length cap0).ownBlock ∨ w.heap.size ≤ k) (fun k _ h => .inl h))
    have F3 := hid (hF3.mono (T := fun k => k = A ∨ some k = (Value.slice a0 xs.length cap0).ownBlock ∨ w.heap.size ≤ k) (fun k _ h => .inr (by
      rcases Hat.out with e | e
      · exact .inl (h.trans e)
      · rw [e] at h
        exact .inr (by have := Option.some.inj h; omega))))
    clear O3 G3 O1 G1 hF3 hb3
    subst hv3
    clear f0 c0 HG1 HO1 hmax
    go_wp2
    go_end0
    rw [Hzs.out]
    refine ⟨rfl, _, G4.out, O4.out, ?_, ?_⟩
    · rcases Hat.out with e | e
      · exact .inl (hb4.out.trans e)
      · exact .inr ⟨_, hb4.out.trans e, Nat.le_refl _⟩
    · have F5 := F3.out.trans F4.out
      have F6 := F0.out.trans F1.out
      exact ⟨F5.os.trans F6.os, F5.tape.trans F6.tape, F5.output.trans F6.output, Nat.le_trans F6.size F5.size, fun k hk hS => (F5.block k (Nat.lt_of_lt_of_le hk F6.size) (fun h => hS (by
        rcases h with h | h | h
        · exact .inl h
        · exact .inr h
        · omega))).trans (F6.block k hk hS)⟩
end Go.Proofs.YtbifmhbkmnofiaaGreat
