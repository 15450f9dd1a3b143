import Derived.Test.YtbifmhbkmnofiaaGreatMn
import Derived.Test.YtbifmhbkmnofiaaGreatMe
import Derived.Lib.SlBytesConst
import Derived.Test.YtbifmhbkmnofiaaGreatMf
namespace Go.Proofs.YtbifmhbkmnofiaaGreat
open Go.RowKit
set_option linter.unusedVariables false
set_option linter.unusedSimpArgs false
theorem row_set {w : World} {A : Nat} {l : List Value} {ty : TypeId} (h : w.heap[A]? = some (.cells l.toArray ty (0, 0))) (j : Nat) (v : Value) : (w.setCell ⟨A, j, none⟩ v).heap[A]? = some (.cells (l.set j v).toArray ty (0, 0)) := by
  simp only [World.setCell, Array.getElem?_modify, if_pos, h, Option.map_some]
  simp
theorem GdAt.lims {w : World} {A : Nat} {g : Gd} (h : GdAt w A g) : w.cell? ⟨A, 0, none⟩ = some (.int .i64 g.st) ∧ w.cell? ⟨A, 1, none⟩ = some (.int .i64 g.wi) ∧ w.cell? ⟨A, 2, none⟩ = some (.int .i64 g.sk) ∧ w.cell? ⟨A, 3, none⟩ = some (.int .u8 g.x.s) ∧ w.cell? ⟨A, 4, none⟩ = some (.int .i64 g.x.t) ∧ w.cell? ⟨A, 5, none⟩ = some (.int .u8 g.x.f) ∧ w.cell? ⟨A, 6, none⟩ = some (.int .i64 g.x.n) ∧ w.cell? ⟨A, 7, none⟩ = some (.int .i64 g.x.c) ∧ w.cell? ⟨A, 8, none⟩ = some (.bool g.br) := by
  obtain ⟨ty, h⟩ := h
  refine ⟨?_, ?_, ?_, ?_, ?_, ?_, ?_, ?_, ?_⟩ <;> (rw [cell_of_row _ _ _ _ _ _ h]; rfl)
/-- the guard is written anew, whole -/
def wrG (w : World) (A : Nat) (st wi sk : Int) (br : Bool) : World :=
  ((((((((w.setCell ⟨A, 0, none⟩ (.int .i64 st)).setCell ⟨A, 1, none⟩ (.int .i64 wi)).setCell ⟨A, 2, none⟩ (.int .i64 sk)).setCell ⟨A, 3, none⟩ (.int .u8 0)).setCell ⟨A, 4, none⟩ (.int .i64 0)).setCell ⟨A, 5, none⟩ (.int .u8 0)).setCell ⟨A, 6, none⟩ (.int .i64 0)).setCell ⟨A, 7, none⟩ (.int .i64 0)).setCell ⟨A, 8, none⟩ (.bool br)
theorem wrG_at {w : World} {A : Nat} {g : Gd} (h : GdAt w A g) (st wi sk : Int) (br : Bool) : GdAt (wrG w A st wi sk br) A ⟨st, wi, sk, W0, br⟩ := by
  obtain ⟨ty, h⟩ := h
  exact ⟨ty, row_set (row_set (row_set (row_set (row_set (row_set (row_set (row_set (row_set h _ _) _ _) _ _) _ _) _ _) _ _) _ _) _ _) _ _⟩
theorem wrG_ex (w : World) (A : Nat) (st wi sk : Int) (br : Bool) : Ex A w (wrG w A st wi sk br) :=
  (((((((((Ex.refl A w).setCell 0 _).setCell 1 _).setCell 2 _).setCell 3 _).setCell 4 _).setCell 5 _).setCell 6 _).setCell 7 _).setCell 8 _
set_option maxRecDepth 20000 in
set_option maxHeartbeats 1000000 in
theorem greset_any (g : Gd) (A : Nat) (w : World) (h : GdAt w A g) :
    Calls Tryz.prog 38 #[.pointer (some ⟨A, 0, none⟩)] w fun e w' => e = .returned (.tuple #[]) ∧ GdAt w' A ⟨g.st, g.wi, g.sk, W0, false⟩ ∧ Ex A w w' := by
  obtain ⟨c0, c1, c2, c3, c4, c5, c6, c7, c8⟩ := h.lims
  have f := fun j => WsAt.frozen h j
  have f0 := f 0
  have f1 := f 1
  have f2 := f 2
  have f3 := f 3
  have f4 := f 4
  have f5 := f 5
  have f6 := f 6
  have f7 := f 7
  have f8 := f 8
  clear f
  have H := hid (wrG_at h g.st g.wi g.sk false)
  have H2 := hid (wrG_ex w A g.st g.wi g.sk false)
  clear h
  go_enter Tryz.func38, Tryz.ntmps38
  go_wp2
  go_end0
  exact ⟨rfl, H.out, H2.out⟩
set_option maxRecDepth 20000 in
set_option maxHeartbeats 1000000 in
theorem gfeed_dead (g : Gd) (A : Nat) (a : Option Addr) (n c : Nat) (w : World) (h : GdAt w A g) (hb : g.br = true) :
    Calls Tryz.prog 40 #[.pointer (some ⟨A, 0, none⟩), .slice a n c] w fun e w' => e = .returned (.tuple #[.int .i64 0, .int .i64 6]) ∧ w' = w := by
  obtain ⟨_, _, _, _, _, _, _, _, c8⟩ := h.lims
  rw [hb] at c8
  clear h
  go_enter Tryz.func40, Tryz.ntmps40
  go_wp2
  go_ret2
  exact ⟨rfl, rfl⟩
set_option maxRecDepth 20000 in
set_option maxHeartbeats 1000000 in
theorem gfeed_many (g : Gd) (A : Nat) (a : Option Addr) (n c : Nat) (w : World) (h : GdAt w A g) (hb : g.br = false) (hn : 200 < n) :
    Calls Tryz.prog 40 #[.pointer (some ⟨A, 0, none⟩), .slice a n c] w fun e w' => e = .returned (.tuple #[.int .i64 0, .int .i64 2]) ∧ w' = w := by
  obtain ⟨_, _, _, _, _, _, _, _, c8⟩ := h.lims
  rw [hb] at c8
  clear h
  go_enter Tryz.func40, Tryz.ntmps40
  go_wp2
  go_ret2
  exact ⟨rfl, rfl⟩
end Go.Proofs.YtbifmhbkmnofiaaGreat
namespace Go.Proofs.YtbifmhbkmnofiaaGreat
open Go.RowKit
set_option linter.unusedVariables false
set_option linter.unusedSimpArgs false
/-- what Feed answers and leaves, where it takes the samples: how many, the error, the guard -/
def fedG (g : Gd) (xs : List Int) : Int × Int × Gd :=
  match takeW g.st g.wi g.sk g.x xs 0 with
  | (y, none) => (xs.length, 0, ⟨g.st, g.wi, g.sk, y, false⟩)
  | (_, some (false, k)) => (k, 4, ⟨g.st, g.wi, g.sk, W0, true⟩)
  | (_, some (true, k)) => (k, 5, ⟨g.st, g.wi, g.sk, W0, true⟩)
set_option maxRecDepth 20000 in
set_option maxHeartbeats 1000000 in
theorem gfeed_take (g : Gd) (A : Nat) (v : Value) (xs : List Int) (w : World) (h : GdAt w A g) (hb : g.br = false) (hv : Byt w v xs) (hvB : ∀ ad n c, v = .slice (some ad) n c → 0 < n → ad.block ≠ A) (hl : xs.length ≤ 200) (hx : g.x.ok g.st g.wi g.sk) (hst : g.st ≤ 50) (hwi : 2 ≤ g.wi) (hwi2 : g.wi ≤ 50) (hsk : g.sk ≤ 50) :
    Calls Tryz.prog 40 #[.pointer (some ⟨A, 0, none⟩), v] w fun e w' => e = .returned (.tuple #[.int .i64 (fedG g xs).1, .int .i64 (fedG g xs).2.1]) ∧ GdAt w' A (fedG g xs).2.2 ∧ Ex A w w' := by
  obtain ⟨c0, c1, c2, _, _, _, _, _, c8⟩ := h.lims
  rw [hb] at c8
  have T := hid (take_any g.x g.st g.wi g.sk v xs A 3 _ _ w.drew (show WsAt w.drew A _ _ _ from h) rfl (show Byt w.drew v xs from hv) hvB (by omega) hx hst hwi hwi2 hsk)
  obtain ⟨a, cap, rfl, _⟩ := hv.form2
  have hl' : ¬ 200 < (xs.length : Int) := by omega
  clear hv hvB h
  go_enter Tryz.func40, Tryz.ntmps40
  go_wp2_with fail
  refine wp_region_held_drew (S := fun w => w.cell? ⟨A, 0, none⟩ = some (.int .i64 g.st) ∧ w.cell? ⟨A, 1, none⟩ = some (.int .i64 g.wi) ∧ w.cell? ⟨A, 2, none⟩ = some (.int .i64 g.sk)) (by kernel_rfl) ⟨c0, c1, c2⟩ (fun hSw => ?_)
  refine wpAnyH_take (i := 0) (v := ?_) rfl (by decide +kernel) (by decide +kernel) (by decide +kernel) (fun _ _ _ h => h) (Or.inl ⟨by rfl, ?_⟩) hSw ?_
  rotate_left
  · intro w hw; go_simp; try with_reducible rfl
  simp only [Act.put, List.getElem_toArray, List.getElem_cons_zero, List.getElem_cons_succ, List.setIfInBounds_toArray, List.set_cons_zero, List.set_cons_succ]
  refine wpAnyH_take (i := 1) (v := ?_) rfl (by decide +kernel) (by decide +kernel) (by decide +kernel) (fun _ _ _ h => h) (Or.inl ⟨by rfl, ?_⟩) hSw ?_
  rotate_left
  · intro w hw; go_simp; try with_reducible rfl
  simp only [Act.put, List.getElem_toArray, List.getElem_cons_zero, List.getElem_cons_succ, List.setIfInBounds_toArray, List.set_cons_zero, List.set_cons_succ]
  refine wpAnyH_take (i := 2) (v := ?_) rfl (by decide +kernel) (by decide +kernel) (by decide +kernel) (fun _ _ _ h => h) (Or.inl ⟨by rfl, ?_⟩) hSw ?_
  rotate_left
  · intro w hw; go_simp; try with_reducible rfl
  simp only [Act.put, List.getElem_toArray, List.getElem_cons_zero, List.getElem_cons_succ, List.setIfInBounds_toArray, List.set_cons_zero, List.set_cons_succ]
  refine wpAnyH_take (i := 3) (v := ?_) rfl (by decide +kernel) (by decide +kernel) (by decide +kernel) (fun _ _ _ h => h) (Or.inl ⟨by rfl, ?_⟩) hSw ?_
  rotate_left
  · intro w hw; go_simp; try with_reducible rfl
  simp only [Act.put, List.getElem_toArray, List.getElem_cons_zero, List.getElem_cons_succ, List.setIfInBounds_toArray, List.set_cons_zero, List.set_cons_succ]
  refine wpAnyH_take (i := 4) (v := ?_) rfl (by decide +kernel) (by decide +kernel) (by decide +kernel) (fun _ _ _ h => h) (Or.inl ⟨by rfl, ?_⟩) hSw ?_
  rotate_left
  · intro w hw; go_simp; try with_reducible rfl
  simp only [Act.put, List.getElem_toArray, List.getElem_cons_zero, List.getElem_cons_succ, List.setIfInBounds_toArray, List.set_cons_zero, List.set_cons_succ]
  refine wpAnyH_take (i := 5) (v := ?_) rfl (by decide +kernel) (by decide +kernel) (by decide +kernel) (fun _ _ _ h => h) (Or.inl ⟨by rfl, ?_⟩) hSw ?_
  rotate_left
  · intro w hw; go_simp; try with_reducible rfl
  simp only [Act.put, List.getElem_toArray, List.getElem_cons_zero, List.getElem_cons_succ, List.setIfInBounds_toArray, List.set_cons_zero, List.set_cons_succ]
  refine wpAnyH_take (i := 6) (v := ?_) rfl (by decide +kernel) (by decide +kernel) (by decide +kernel) (fun _ _ _ h => h) (Or.inl ⟨by rfl, ?_⟩) hSw ?_
  rotate_left
  · intro w hw; go_simp; try with_reducible rfl
  simp only [Act.put, List.getElem_toArray, List.getElem_cons_zero, List.getElem_cons_succ, List.setIfInBounds_toArray, List.set_cons_zero, List.set_cons_succ]
  refine wpAnyH_take (i := 7) (v := ?_) rfl (by decide +kernel) (by decide +kernel) (by decide +kernel) (fun _ _ _ h => h) (Or.inl ⟨by rfl, ?_⟩) hSw ?_
  rotate_left
  · intro w hw; obtain ⟨hc0, hc1, hc2⟩ := hw; go_simp; try with_reducible rfl
  simp only [Act.put, List.getElem_toArray, List.getElem_cons_zero, List.getElem_cons_succ, List.setIfInBounds_toArray, List.set_cons_zero, List.set_cons_succ]
  refine wpAnyH_ready (rs := [8]) (by kernel_rfl) (by simp) ?_
  refine AllReadyH.cons rfl (fun K hK => ?_) AllReadyH.nil
  go_simp
  refine T.out.mono ?_
  rintro e w2 ⟨rfl, hW2, hE2⟩
  have hG2 : GdAt w2 A ⟨g.st, g.wi, g.sk, (takeW g.st g.wi g.sk g.x xs 0).1, false⟩ := by rw [← hb]; exact hW2
  obtain ⟨d0, d1, d2, d3, d4, d5, d6, d7, d8⟩ := hG2.lims
  refine hK.out _ _ ⟨d0, d1, d2⟩ (fun hSw => ?_)
  clear hK K T
  refine wpAnyH_take (i := 9) (v := ?_) rfl (by decide +kernel) (by decide +kernel) (by decide +kernel) (fun _ _ _ h => h) (Or.inl ⟨by rfl, ?_⟩) hSw ?_
  rotate_left
  · intro w hw; go_simp; try with_reducible rfl
  simp only [Act.put, List.getElem_toArray, List.getElem_cons_zero, List.getElem_cons_succ, List.setIfInBounds_toArray, List.set_cons_zero, List.set_cons_succ]
  refine wpAnyH_done (by kernel_rfl) ?_ _
  have HE2 : Hd (Ex A w w2) := hid ((Ex.refl A w).drew.trans hE2)
  clear hW2 hE2 hSw c0 c1 c2 c8
  dsimp only at d0 d1 d2 d3 d4 d5 d6 d7 d8
  rcases hT : takeW g.st g.wi g.sk g.x xs 0 with ⟨y, _ | ⟨b, k⟩⟩
  · rw [hT] at hG2
    have he : fedG g xs = ((xs.length : Int), 0, ⟨g.st, g.wi, g.sk, y, false⟩) := by unfold fedG; rw [hT]
    have He := hid he
    have HG := hid hG2
    clear hG2 d0 d1 d2 d3 d4 d5 d6 d7 d8 he hT
    dsimp only [faultV]
    go_wp2
    go_ret2
    rw [He.out]
    exact ⟨rfl, HG.out, HE2.out⟩
  · rw [hT] at hG2 d3 d4 d5 d6 d7
    dsimp only at d3 d4 d5 d6 d7
    cases b
    · have he : fedG g xs = ((k : Int), 4, ⟨g.st, g.wi, g.sk, W0, true⟩) := by unfold fedG; rw [hT]
      have He := hid he
      have HG := hid (wrG_at hG2 g.st g.wi g.sk true)
      have HX := hid (HE2.out.trans (wrG_ex w2 A g.st g.wi g.sk true))
      have f := fun j => WsAt.frozen hG2 j
      have f0 := f 0
      have f1 := f 1
      have f2 := f 2
      have f3 := f 3
      have f4 := f 4
      have f5 := f 5
      have f6 := f 6
      have f7 := f 7
      have f8 := f 8
      have hme := Tryz.mAhead1 (k : Int)
      clear f hG2 he hT HE2 hl'
      dsimp only [faultV]
      go_wp2_with fail
      change Calls _ _ _ (wrG w2 A g.st g.wi g.sk true) _
      generalize wrG w2 A g.st g.wi g.sk true = w3 at *
      refine (ahead1 (k : Int) w3).mono ?_
      rintro e w4 ⟨rfl, rfl⟩
      clear hme f0 f1 f2 f3 f4 f5 f6 f7 f8 d0 d1 d2 d3 d4 d5 d6 d7 d8
      go_wp2_with fail
      refine (fault1 (k : Int) _).mono ?_
      rintro e w5 ⟨rfl, rfl⟩
      go_wp2
      go_ret2
      rw [He.out]
      exact ⟨rfl, HG.out, HX.out⟩
    · have he : fedG g xs = ((k : Int), 5, ⟨g.st, g.wi, g.sk, W0, true⟩) := by unfold fedG; rw [hT]
      have He := hid he
      have HG := hid (wrG_at hG2 g.st g.wi g.sk true)
      have HX := hid (HE2.out.trans (wrG_ex w2 A g.st g.wi g.sk true))
      have f := fun j => WsAt.frozen hG2 j
      have f0 := f 0
      have f1 := f 1
      have f2 := f 2
      have f3 := f 3
      have f4 := f 4
      have f5 := f 5
      have f6 := f 6
      have f7 := f 7
      have f8 := f 8
      have hme := Tryz.mAhead2 (k : Int)
      clear f hG2 he hT HE2 hl'
      dsimp only [faultV]
      go_wp2_with fail
      change Calls _ _ _ (wrG w2 A g.st g.wi g.sk true) _
      generalize wrG w2 A g.st g.wi g.sk true = w3 at *
      refine (ahead2 (k : Int) w3).mono ?_
      rintro e w4 ⟨rfl, rfl⟩
      clear hme f0 f1 f2 f3 f4 f5 f6 f7 f8 d0 d1 d2 d3 d4 d5 d6 d7 d8
      go_wp2_with fail
      refine (fault2 (k : Int) _).mono ?_
      rintro e w5 ⟨rfl, rfl⟩
      go_wp2
      go_ret2
      rw [He.out]
      exact ⟨rfl, HG.out, HX.out⟩
end Go.Proofs.YtbifmhbkmnofiaaGreat
namespace Go.Proofs.YtbifmhbkmnofiaaGreat
open Go.RowKit
set_option linter.unusedVariables false
set_option linter.unusedSimpArgs false
end Go.Proofs.YtbifmhbkmnofiaaGreat
namespace Go.Proofs.YtbifmhbkmnofiaaGreat
open Go.RowKit
set_option linter.unusedVariables false
set_option linter.unusedSimpArgs false
/-- the watch's state behind the first k samples, by its meaning -/
def Rl (xs : List Int) (W k : Nat) (y : WS) : Prop :=
  (k = 0 → y = W0) ∧ (0 < k → y.s = xs[k - 1]?.getD 0 ∧ y.c = ((k - 1) % W : Nat) + 1 ∧ y.f = xs[(k - 1) - (k - 1) % W]?.getD 0)
theorem pred_mod {k W : Nat} (h : 0 < k) (hW : 2 ≤ W) : (k % W = 0 → (k - 1) % W + 1 = W) ∧ (k % W ≠ 0 → (k - 1) % W + 1 = k % W) := by
  obtain ⟨j, rfl⟩ : ∃ j, k = j + 1 := ⟨k - 1, by omega⟩
  rw [Nat.add_sub_cancel]
  have h1 := Nat.mod_lt j (show 0 < W by omega)
  by_cases hc : j % W + 1 = W
  · have : (j + 1) % W = 0 := by rw [Nat.add_mod, Nat.mod_eq_of_lt (show 1 < W by omega), hc, Nat.mod_self]
    exact ⟨fun _ => hc, fun h => absurd this h⟩
  · have : (j + 1) % W = j % W + 1 := by rw [Nat.add_mod, Nat.mod_eq_of_lt (show 1 < W by omega), Nat.mod_eq_of_lt (by omega)]
    exact ⟨fun h => by omega, fun _ => this.symm⟩
theorem Rl.run {xs : List Int} {W k : Nat} {y : WS} (h : Rl xs W k y) (b : Int) : (runW y b).t = if 0 < k ∧ b = xs[k - 1]?.getD 0 then y.t + 1 else 1 := by
  by_cases hk : k = 0
  · rw [h.1 hk, if_neg (by omega)]
    unfold runW W0
    dsimp only
    split <;> simp
  · have h2 := (h.2 (by omega)).1
    unfold runW
    rw [h2]
    by_cases hb : b = xs[k - 1]?.getD 0
    · rw [if_pos hb, if_pos ⟨by omega, hb⟩]
    · rw [if_neg hb, if_neg (fun hh => hb hh.2)]
theorem runW_s (y : WS) (b : Int) : (runW y b).s = b := by
  unfold runW
  split
  · rename_i h; exact h.symm
  · rfl
theorem Rl.win {xs : List Int} {W k : Nat} {y : WS} (h : Rl xs W k y) (hW : 2 ≤ W) (b : Int) (hb : b = xs[k]?.getD 0) :
    (winW (runW y b) b W).n = (if k % W = 0 then 1 else if b = xs[k - k % W]?.getD 0 then y.n + 1 else y.n) ∧ (winW (runW y b) b W).c = (k % W : Nat) + 1 ∧ (winW (runW y b) b W).f = xs[k - k % W]?.getD 0 ∧ (winW (runW y b) b W).s = b := by
  obtain ⟨rf, rn, rc⟩ := runW_rest y b
  have rs := runW_s y b
  by_cases hk : k = 0
  · have hy := h.1 hk
    subst hk
    rw [hy] at rf rn rc rs ⊢
    have hn0 : ¬ (runW W0 b).c = (W : Int) := by rw [rc]; show ¬ (0 : Int) = W; omega
    rw [winW_first b hn0 (by rw [rc]; rfl)]
    dsimp only
    rw [rs, rn]
    simp [hb, W0]
  · obtain ⟨h1, h2, h3⟩ := h.2 (by omega)
    obtain ⟨p1, p2⟩ := pred_mod (show 0 < k by omega) hW
    by_cases hm : k % W = 0
    · have hc := p1 hm
      have hn0 : (runW y b).c = (W : Int) := by rw [rc, h2]; omega
      rw [winW_new b hn0]
      dsimp only
      rw [rs, hm]
      simp [hb]
    · have hc := p2 hm
      have hlt := Nat.mod_lt k (show 0 < W by omega)
      have hn0 : ¬ (runW y b).c = (W : Int) := by rw [rc, h2]; omega
      have hn1 : ¬ (runW y b).c = 0 := by rw [rc, h2]; omega
      have hf : xs[k - 1 - (k - 1) % W]?.getD 0 = xs[k - k % W]?.getD 0 := by congr 2; omega
      by_cases hbf : b = xs[k - k % W]?.getD 0
      · rw [winW_same b hn0 hn1 (by rw [rf, h3, hf]; exact hbf)]
        dsimp only
        rw [if_neg hm, if_pos hbf, rn, rc, h2, rf, h3, hf, rs]
        refine ⟨rfl, by omega, rfl, rfl⟩
      · rw [winW_else b hn0 hn1 (by rw [rf, h3, hf]; exact hbf)]
        dsimp only
        rw [if_neg hm, if_neg hbf, rn, rc, h2, rf, h3, hf, rs]
        refine ⟨rfl, by omega, rfl, rfl⟩
theorem Rl.next {xs : List Int} {W k : Nat} {y : WS} (h : Rl xs W k y) (hW : 2 ≤ W) (b : Int) (hb : b = xs[k]?.getD 0) : Rl xs W (k + 1) (winW (runW y b) b W) := by
  obtain ⟨_, h2, h3, h4⟩ := h.win hW b hb
  exact ⟨fun h => by omega, fun _ => ⟨by rw [h4, hb, Nat.add_sub_cancel], by rw [h2, Nat.add_sub_cancel], by rw [h3, Nat.add_sub_cancel]⟩⟩
theorem Rl.zero (xs : List Int) (W : Nat) : Rl xs W 0 W0 := ⟨fun _ => rfl, fun h => by omega⟩
end Go.Proofs.YtbifmhbkmnofiaaGreat
namespace Go.Proofs.YtbifmhbkmnofiaaGreat
open Go.RowKit
set_option linter.unusedVariables false
set_option linter.unusedSimpArgs false
/-- what springkeep's wrong answers -/
def wrongV (n : Nat) : Option (Bool × Nat) → Value
  | none => .tuple #[.int .i64 n, .int .i64 0]
  | some (false, k) => .tuple #[.int .i64 k, .int .i64 4]
  | some (true, k) => .tuple #[.int .i64 k, .int .i64 5]
end Go.Proofs.YtbifmhbkmnofiaaGreat
namespace Go.Proofs.YtbifmhbkmnofiaaGreat
open Go.RowKit
set_option linter.unusedVariables false
set_option linter.unusedSimpArgs false
theorem takeW_cons (st wi sk : Int) (x : WS) (b : Int) (r : List Int) (k : Nat) : takeW st wi sk x (b :: r) k = if st ≤ (runW x b).t then (runW x b, some (false, k)) else if sk ≤ (winW (runW x b) b wi).n then (winW (runW x b) b wi, some (true, k)) else takeW st wi sk (winW (runW x b) b wi) r (k + 1) := rfl
/-- one piece behind the other, where nothing is wrong with the first -/
theorem takeW_none {st wi sk : Int} {x y : WS} {us : List Int} {k : Nat} (h : takeW st wi sk x us k = (y, none)) (bs : List Int) : takeW st wi sk x (us ++ bs) k = takeW st wi sk y bs (k + us.length) := by
  induction us generalizing x k with
  | nil => cases h; rfl
  | cons a us ih =>
    rw [takeW_cons] at h
    rw [List.cons_append, takeW_cons]
    by_cases h1 : st ≤ (runW x a).t
    · rw [if_pos h1] at h; simp at h
    · rw [if_neg h1] at h ⊢
      by_cases h2 : sk ≤ (winW (runW x a) a wi).n
      · rw [if_pos h2] at h; simp at h
      · rw [if_neg h2] at h ⊢
        rw [ih h, List.length_cons]
        congr 1
        omega
/-- .. and where the first is wrong -/
theorem takeW_some {st wi sk : Int} {x y : WS} {us : List Int} {k : Nat} {f : Bool × Nat} (h : takeW st wi sk x us k = (y, some f)) (bs : List Int) : takeW st wi sk x (us ++ bs) k = (y, some f) := by
  induction us generalizing x k with
  | nil => simp [takeW] at h
  | cons a us ih =>
    rw [takeW_cons] at h
    rw [List.cons_append, takeW_cons]
    by_cases h1 : st ≤ (runW x a).t
    · rw [if_pos h1] at h ⊢; exact h
    · rw [if_neg h1] at h ⊢
      by_cases h2 : sk ≤ (winW (runW x a) a wi).n
      · rw [if_pos h2] at h ⊢; exact h
      · rw [if_neg h2] at h ⊢
        exact ih h
theorem takeW_lt {st wi sk : Int} {x y : WS} {us : List Int} {k p : Nat} {f : Bool} (h : takeW st wi sk x us k = (y, some (f, p))) : k ≤ p ∧ p < k + us.length := by
  induction us generalizing x k with
  | nil => simp [takeW] at h
  | cons a us ih =>
    rw [takeW_cons] at h
    rw [List.length_cons]
    by_cases h1 : st ≤ (runW x a).t
    · rw [if_pos h1] at h; simp at h; omega
    · rw [if_neg h1] at h
      by_cases h2 : sk ≤ (winW (runW x a) a wi).n
      · rw [if_pos h2] at h; simp at h; omega
      · rw [if_neg h2] at h
        have := ih h
        omega
/-- the place is counted from where one begins -/
theorem takeW_shift (st wi sk : Int) (x : WS) (us : List Int) (k c : Nat) : takeW st wi sk x us (k + c) = ((takeW st wi sk x us k).1, (takeW st wi sk x us k).2.map fun f => (f.1, f.2 + c)) := by
  induction us generalizing x k with
  | nil => rfl
  | cons a us ih =>
    rw [takeW_cons, takeW_cons]
    by_cases h1 : st ≤ (runW x a).t
    · rw [if_pos h1, if_pos h1]; rfl
    · rw [if_neg h1, if_neg h1]
      by_cases h2 : sk ≤ (winW (runW x a) a wi).n
      · rw [if_pos h2, if_pos h2]; rfl
      · rw [if_neg h2, if_neg h2, ← ih]
        congr 1
        omega
theorem takeW_ok {st wi sk : Int} {x y : WS} {us : List Int} {k : Nat} (hwi : 2 ≤ wi) (hx : x.ok st wi sk) (h : takeW st wi sk x us k = (y, none)) : y.ok st wi sk := by
  induction us generalizing x k with
  | nil => cases h; exact hx
  | cons a us ih =>
    rw [takeW_cons] at h
    by_cases h1 : st ≤ (runW x a).t
    · rw [if_pos h1] at h; simp at h
    · rw [if_neg h1] at h
      by_cases h2 : sk ≤ (winW (runW x a) a wi).n
      · rw [if_pos h2] at h; simp at h
      · rw [if_neg h2] at h
        obtain ⟨_, r2, r3⟩ := runW_rest x a
        have rt := runW_t x a hx.t0
        obtain ⟨w1, w2, w3, w4, w5⟩ := winW_bd (runW x a) a wi (by rw [r2]; exact hx.n0) (by rw [r3]; exact hx.c0) (by rw [r3]; exact hx.c1) hwi
        exact ih ⟨by omega, by omega, w2, by omega, w4, w5⟩ h
theorem W0_ok {st wi sk : Int} (h1 : 2 ≤ st) (h2 : 2 ≤ wi) (h3 : 2 ≤ sk) : W0.ok st wi sk := ⟨by decide, by show (0 : Int) < st; omega, by decide, by show (0 : Int) < sk; omega, by decide, by show (0 : Int) ≤ wi; omega⟩
/-- 'xy' on a guard that begins anew -/
theorem take_xy {st wi sk : Int} (h1 : 2 ≤ st) (h2 : 2 ≤ wi) (h3 : 2 ≤ sk) : (takeW st wi sk W0 [120, 121] 0).2 = none := by
  have r1 : runW W0 120 = ⟨120, 1, 0, 0, 0⟩ := rfl
  have w1 : winW ⟨120, 1, 0, 0, 0⟩ 120 wi = ⟨120, 1, 120, 1, 1⟩ := by rw [winW_first _ (by show (0 : Int) ≠ wi; omega) rfl]; rfl
  have r2 : runW ⟨120, 1, 120, 1, 1⟩ 121 = ⟨121, 1, 120, 1, 1⟩ := rfl
  have w2 : winW ⟨121, 1, 120, 1, 1⟩ 121 wi = ⟨121, 1, 120, 1, 2⟩ := by rw [winW_else _ (by show (1 : Int) ≠ wi; omega) (by decide) (by decide)]; rfl
  rw [takeW_cons, r1, w1, if_neg (by show ¬ st ≤ 1; omega), if_neg (by show ¬ sk ≤ 1; omega), takeW_cons, r2, w2, if_neg (by show ¬ st ≤ 1; omega), if_neg (by show ¬ sk ≤ 1; omega)]
  rfl
end Go.Proofs.YtbifmhbkmnofiaaGreat
namespace Go.Proofs.YtbifmhbkmnofiaaGreat
open Go.RowKit
set_option linter.unusedVariables false
set_option linter.unusedSimpArgs false
theorem take_baaa : takeW 3 5 4 W0 [98, 97, 97, 97] 0 = (⟨97, 3, 98, 1, 3⟩, some (false, 3)) := by rfl
theorem take_long : (takeW 3 5 4 W0 [97, 98, 97, 97, 99, 103, 103, 97, 103, 103] 0).2 = some (true, 9) := by rfl
theorem Byt.row {w : World} {A : Nat} {xs : List Int} {ty : TypeId} {f : Nat × Nat} (h : w.heap[A]? = some (.cells (ints .u8 xs) ty f)) (n c : Nat) (hn : n = xs.length) : Byt w (.slice (some ⟨A, 0, none⟩) n c) xs := by
  subst hn
  refine Or.inr ⟨A, 0, c, rfl, fun j hj => ?_⟩
  rw [cell_of_row _ _ _ _ _ _ h, Nat.zero_add, ints]
  simp [hj]
end Go.Proofs.YtbifmhbkmnofiaaGreat
namespace Go.Proofs.YtbifmhbkmnofiaaGreat
open Go.RowKit
set_option linter.unusedVariables false
set_option linter.unusedSimpArgs false
theorem cut3 (xs : List Int) (p n : Nat) (h : p + n ≤ xs.length) : xs = xs.take p ++ (((xs.drop p).take n) ++ xs.drop (p + n)) := by
  rw [← List.drop_drop, List.take_append_drop, List.take_append_drop]
theorem take_next (xs : List Int) (p n : Nat) : xs.take (p + n) = xs.take p ++ (xs.drop p).take n := by rw [List.take_add]
/-- a piece with which nothing is wrong: the first fault of all lies behind it -/
theorem piece_none {st wi sk : Int} {xs : List Int} {p n : Nat} {y z : WS} (hl : p + n ≤ xs.length) (h1 : takeW st wi sk W0 (xs.take p) 0 = (y, none)) (h2 : takeW st wi sk y ((xs.drop p).take n) 0 = (z, none)) :
    takeW st wi sk W0 (xs.take (p + n)) 0 = (z, none) ∧ (∀ f q, (takeW st wi sk W0 xs 0).2 = some (f, q) → p + n ≤ q) := by
  have hp : (xs.take p).length = p := by rw [List.length_take]; omega
  have hn : ((xs.drop p).take n).length = n := by rw [List.length_take, List.length_drop]; omega
  have h3 : takeW st wi sk y ((xs.drop p).take n) p = (z, none) := by
    have := takeW_shift st wi sk y ((xs.drop p).take n) 0 p
    rw [Nat.zero_add, h2] at this
    exact this
  have h4 : takeW st wi sk W0 (xs.take (p + n)) 0 = (z, none) := by
    rw [take_next, takeW_none h1, Nat.zero_add, hp]
    exact h3
  refine ⟨h4, fun f q hq => ?_⟩
  have h5 : takeW st wi sk W0 xs 0 = takeW st wi sk z (xs.drop (p + n)) (p + n) := by
    have := takeW_none h4 (xs.drop (p + n))
    rw [List.take_append_drop, Nat.zero_add, List.length_take, Nat.min_eq_left hl] at this
    exact this
  rw [h5] at hq
  exact (takeW_lt (y := (takeW st wi sk z (xs.drop (p + n)) (p + n)).1) (f := f) (Prod.ext rfl hq)).1
/-- a piece with a fault: it is the first of all -/
theorem piece_some {st wi sk : Int} {xs : List Int} {p n q : Nat} {y z : WS} {f : Bool} (hl : p + n ≤ xs.length) (h1 : takeW st wi sk W0 (xs.take p) 0 = (y, none)) (h2 : takeW st wi sk y ((xs.drop p).take n) 0 = (z, some (f, q))) :
    (takeW st wi sk W0 xs 0).2 = some (f, q + p) ∧ q < n := by
  have hp : (xs.take p).length = p := by rw [List.length_take]; omega
  have hn : ((xs.drop p).take n).length = n := by rw [List.length_take, List.length_drop]; omega
  have hq := (takeW_lt h2).2
  rw [hn, Nat.zero_add] at hq
  refine ⟨?_, hq⟩
  have h3 : takeW st wi sk y ((xs.drop p).take n) p = (z, some (f, q + p)) := by
    have := takeW_shift st wi sk y ((xs.drop p).take n) 0 p
    rw [Nat.zero_add, h2] at this
    exact this
  have h4 : takeW st wi sk W0 (xs.take (p + n)) 0 = (z, some (f, q + p)) := by
    rw [take_next, takeW_none h1, Nat.zero_add, hp]
    exact h3
  have := takeW_some h4 (xs.drop (p + n))
  rw [List.take_append_drop] at this
  rw [this]
end Go.Proofs.YtbifmhbkmnofiaaGreat
namespace Go.Proofs.YtbifmhbkmnofiaaGreat
open Go.RowKit
set_option linter.unusedVariables false
set_option linter.unusedSimpArgs false
theorem wrongV_form (n : Nat) (R : Option (Bool × Nat)) : ∃ (pl : Nat) (cd : Int), wrongV n R = .tuple #[.int .i64 pl, .int .i64 cd] ∧ (∀ f q, R = some (f, q) → pl = q ∧ cd = if f then 5 else 4) ∧ (R = none → pl = n ∧ cd = 0) := by
  rcases R with _ | ⟨f, q⟩
  · exact ⟨n, 0, rfl, fun f q h => by simp at h, fun _ => ⟨rfl, rfl⟩⟩
  · cases f
    · exact ⟨q, 4, rfl, fun f q h => by simp at h; obtain ⟨rfl, rfl⟩ := h; simp, fun h => by simp at h⟩
    · exact ⟨q, 5, rfl, fun f q h => by simp at h; obtain ⟨rfl, rfl⟩ := h; simp, fun h => by simp at h⟩
end Go.Proofs.YtbifmhbkmnofiaaGreat
namespace Go.Proofs.YtbifmhbkmnofiaaGreat
open Go.RowKit
set_option linter.unusedVariables false
set_option linter.unusedSimpArgs false
/-- of k samples from place f on, how many are as the one at f -/
def cntF (cs : List Int) (f : Nat) : Nat → Nat
  | 0 => 0
  | k + 1 => cntF cs f k + if cs[f + k]?.getD 0 = cs[f]?.getD 0 then 1 else 0
theorem cntF_le (cs : List Int) (f : Nat) : ∀ k, cntF cs f k ≤ k
  | 0 => Nat.le_refl _
  | k + 1 => by have := cntF_le cs f k; unfold cntF; split <;> omega
theorem get_app (cs : List Int) (b : Int) (j : Nat) (h : j < cs.length) : (cs ++ [b])[j]?.getD 0 = cs[j]?.getD 0 := by rw [List.getElem?_append_left h]
theorem get_last (cs : List Int) (b : Int) : (cs ++ [b])[cs.length]?.getD 0 = b := by simp
theorem cntF_app (cs : List Int) (b : Int) (f : Nat) : ∀ k, f + k ≤ cs.length → cntF (cs ++ [b]) f k = cntF cs f k
  | 0, _ => rfl
  | k + 1, h => by
    unfold cntF
    rw [cntF_app cs b f k (by omega), get_app cs b (f + k) (by omega), get_app cs b f (by omega)]
/-- the watch's state behind all samples, by its meaning -/
structure Ab (cs : List Int) (W : Nat) (y : WS) : Prop where
  rl : Rl cs W cs.length y
  run : 0 < cs.length → ∃ t : Nat, y.t = t ∧ 1 ≤ t ∧ t ≤ cs.length ∧ (∀ j, j < t → cs[cs.length - 1 - j]?.getD 0 = cs[cs.length - 1]?.getD 0) ∧ (t = cs.length ∨ cs[cs.length - 1 - t]?.getD 0 ≠ cs[cs.length - 1]?.getD 0)
  win : 0 < cs.length → y.n = cntF cs ((cs.length - 1) - (cs.length - 1) % W) ((cs.length - 1) % W + 1)
theorem Ab.zero (W : Nat) : Ab [] W W0 := ⟨Rl.zero _ _, fun h => by simp at h, fun h => by simp at h⟩
theorem Rl.app {cs : List Int} {W : Nat} {y : WS} (h : Rl cs W cs.length y) (b : Int) : Rl (cs ++ [b]) W cs.length y := by
  refine ⟨h.1, fun hp => ?_⟩
  obtain ⟨h1, h2, h3⟩ := h.2 hp
  exact ⟨by rw [get_app _ _ _ (by omega)]; exact h1, h2, by rw [get_app _ _ _ (by omega)]; exact h3⟩
theorem winW_t (x : WS) (b L : Int) : (winW x b L).t = x.t := by
  unfold winW
  dsimp only
  split <;> split <;> rfl
theorem Ab.next {cs : List Int} {W : Nat} {y : WS} (h : Ab cs W y) (hW : 2 ≤ W) (b : Int) : Ab (cs ++ [b]) W (winW (runW y b) b W) := by
  have hlen : (cs ++ [b]).length = cs.length + 1 := by simp
  have hr := h.rl.app b
  have hb : b = (cs ++ [b])[cs.length]?.getD 0 := (get_last cs b).symm
  refine ⟨by rw [hlen]; exact hr.next hW b hb, fun _ => ?_, fun _ => ?_⟩
  · rw [winW_t, hr.run b, hlen, Nat.add_sub_cancel, get_last]
    by_cases hk : 0 < cs.length
    · obtain ⟨t, h1, h2, h3, h4, h5⟩ := h.run hk
      rw [get_app _ _ _ (by omega)]
      by_cases he : b = cs[cs.length - 1]?.getD 0
      · rw [if_pos ⟨hk, he⟩]
        refine ⟨t + 1, by rw [h1]; rfl, by omega, by omega, fun j hj => ?_, ?_⟩
        · by_cases hj0 : j = 0
          · subst hj0; exact get_last cs b
          · rw [get_app _ _ _ (by omega), he, ← h4 (j - 1) (by omega)]
            congr 2
            omega
        · rcases h5 with h5 | h5
          · exact .inl (by omega)
          · by_cases h6 : t = cs.length
            · exact .inl (by omega)
            · refine .inr ?_
              rw [get_app _ _ _ (by omega), he]
              intro hh
              apply h5
              rw [← hh]
              congr 2
              omega
      · rw [if_neg (fun hh => he hh.2)]
        refine ⟨1, rfl, by omega, by omega, fun j hj => ?_, ?_⟩
        · obtain rfl : j = 0 := by omega
          exact get_last cs b
        · refine .inr ?_
          rw [get_app _ _ _ (by omega)]
          exact fun hh => he hh.symm
    · rw [if_neg (fun hh => hk hh.1)]
      refine ⟨1, rfl, by omega, by omega, fun j hj => ?_, .inl (by omega)⟩
      obtain rfl : j = 0 := by omega
      exact get_last cs b
  · obtain ⟨h1, _⟩ := hr.win hW b hb
    rw [h1, hlen, Nat.add_sub_cancel]
    have hml := Nat.mod_le cs.length W
    by_cases hm : cs.length % W = 0
    · rw [if_pos hm, hm, Nat.sub_zero]
      unfold cntF cntF
      simp
    · rw [if_neg hm]
      have hk : 0 < cs.length := by
        rcases Nat.eq_zero_or_pos cs.length with h0 | h0
        · rw [h0] at hm; simp at hm
        · exact h0
      have hp := (pred_mod hk hW).2 hm
      have e1 : cs.length - 1 - (cs.length - 1) % W = cs.length - cs.length % W := by omega
      have hw := h.win hk
      rw [e1, hp] at hw
      have e2 : cs.length - cs.length % W + cs.length % W = cs.length := by omega
      unfold cntF
      rw [cntF_app _ _ _ _ (by omega), e2, get_last, hw]
      by_cases hf : b = (cs ++ [b])[cs.length - cs.length % W]?.getD 0
      · rw [if_pos hf, if_pos hf]; rfl
      · rw [if_neg hf, if_neg hf]; rfl
/-- what is wrong with the last sample -/
def badI (st sk : Int) (cs : List Int) (W : Nat) (y : WS) : Int := if st ≤ y.t then 4 else if cs[cs.length - 1]?.getD 0 = cs[(cs.length - 1) - (cs.length - 1) % W]?.getD 0 ∧ sk ≤ y.n then 5 else 0
theorem winW_else_n (x : WS) (b L : Int) (h1 : (winW x b L).f ≠ b) : (winW x b L).n = x.n := by
  unfold winW at h1 ⊢
  dsimp only at h1 ⊢
  split at h1 <;> split at h1 <;> simp_all
  intro e
  exact absurd e.symm h1
/-- the program's tests, and what 'bad' says -/
theorem bad_step {cs : List Int} {W : Nat} {y : WS} {st sk : Int} (h : Ab cs W y) (hW : 2 ≤ W) (hn : y.n < sk) (b : Int) :
    badI st sk (cs ++ [b]) W (winW (runW y b) b W) = if st ≤ (runW y b).t then 4 else if sk ≤ (winW (runW y b) b W).n then 5 else 0 := by
  have hlen : (cs ++ [b]).length = cs.length + 1 := by simp
  have hb : b = (cs ++ [b])[cs.length]?.getD 0 := (get_last cs b).symm
  obtain ⟨_, _, h3, _⟩ := (h.rl.app b).win hW b hb
  unfold badI
  rw [winW_t, hlen, Nat.add_sub_cancel, get_last, ← h3]
  by_cases hf : (winW (runW y b) b W).f = b
  · simp only [hf, true_and]
  · have hnn := winW_else_n _ _ _ hf
    rw [(runW_rest y b).2.1] at hnn
    rw [hnn]
    split
    · rfl
    · rw [if_neg (fun hh => hf hh.1.symm), if_neg (by omega)]
end Go.Proofs.YtbifmhbkmnofiaaGreat
