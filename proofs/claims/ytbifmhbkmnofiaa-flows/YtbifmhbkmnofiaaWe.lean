import Derived.Test.YtbifmhbkmnofiaaWd
namespace Go.Proofs.Ytbifmhbkmnofiaa
open Go.RowKit
set_option linter.unusedVariables false
set_option linter.unusedSimpArgs false
/-- what Feed answers and leaves, where it takes the samples: how many, the error, the guard -/
def fedG (g : Gd) (xs : List Int) : Int × Int × Gd :=
  match takeW g.st g.wi g.sk g.x xs 0 with
  | (y, none) => (xs.length, 0, ⟨g.st, g.wi, g.sk, y, false⟩)
  | (_, some (false, k)) => (k, 4, ⟨g.st, g.wi, g.sk, W0, true⟩)
  | (_, some (true, k)) => (k, 5, ⟨g.st, g.wi, g.sk, W0, true⟩)
set_option maxRecDepth 20000 in
set_option maxHeartbeats 1000000 in
theorem gfeed_take (g : Gd) (A : Nat) (v : Value) (xs : List Int) (w : World) (h : GdAt w A g) (hb : g.br = false) (hv : Byt w v xs) (hvB : ∀ ad n c, v = .slice (some ad) n c → 0 < n → ad.block ≠ A) (hl : xs.length ≤ 200) (hx : g.x.ok g.st g.wi g.sk) (hst : g.st ≤ 50) (hwi : 2 ≤ g.wi) (hwi2 : g.wi ≤ 50) (hsk : g.sk ≤ 50) :
    Calls Try.prog 28 #[.pointer (some ⟨A, 0, none⟩), v] w fun e w' => e = .returned (.tuple #[.int .i64 (fedG g xs).1, .int .i64 (fedG g xs).2.1]) ∧ GdAt w' A (fedG g xs).2.2 ∧ Ex A w w' := by
  obtain ⟨c0, c1, c2, _, _, _, _, _, c8⟩ := h.lims
  rw [hb] at c8
  have T := hid (take_any g.x g.st g.wi g.sk v xs A 3 _ _ w.drew (show WsAt w.drew A _ _ _ from h) rfl (show Byt w.drew v xs from hv) hvB (by omega) hx hst hwi hwi2 hsk)
  obtain ⟨a, cap, rfl, _⟩ := hv.form2
  have hl' : ¬ 200 < (xs.length : Int) := by omega
  clear hv hvB h
  go_enter Try.func28, Try.ntmps28
  go_wp2_with fail
  refine wp_region_held_drew (S := fun w => w.cell? ⟨A, 0, none⟩ = some (.int .i64 g.st) ∧ w.cell? ⟨A, 1, none⟩ = some (.int .i64 g.wi) ∧ w.cell? ⟨A, 2, none⟩ = some (.int .i64 g.sk)) (by kernel_rfl) ⟨c0, c1, c2⟩ (fun hSw => ?_)
  refine wpAnyH_take (i := 0) (v := ?_) rfl (by decide +kernel) (by decide +kernel) (by decide +kernel) (fun _ _ _ h => h) (Or.inl ⟨by rfl, ?_⟩) hSw ?_
  rotate_left
  · intro w hw; go_simp; try with_reducible rfl
  simp only [Act.put, List.getElem_toArray, List.getElem_cons_zero, List.getElem_cons_succ, List.setIfInBounds_toArray, List.set_cons_zero, List.set_cons_succ]
  refine wpAnyH_take (i := 1) (v := ?_) rfl (by decide +kernel) (by decide +kernel) (by decide +kernel) (fun _ _ _ h => h) (Or.inl ⟨by rfl, ?_⟩) hSw ?_
  rotate_left
  · intro w hw; go_simp; try with_reducible rfl
  simp only [Act.put, List.getElem_toArray, List.getElem_cons_zero, List.getElem_cons_succ, List.setIfInBounds_toArray, List.set_cons_zero, List.set_cons_succ]
  refine wpAnyH_take (i := 2) (v := ?_) rfl (by decide +kernel) (by decide +kernel) (by decide +kernel) (fun _ _ _ h => h) (Or.inl ⟨by rfl, ?_⟩) hSw ?_
  rotate_left
  · intro w hw; go_simp; try with_reducible rfl
  simp only [Act.put, List.getElem_toArray, List.getElem_cons_zero, List.getElem_cons_succ, List.setIfInBounds_toArray, List.set_cons_zero, List.set_cons_succ]
  refine wpAnyH_take (i := 3) (v := ?_) rfl (by decide +kernel) (by decide +kernel) (by decide +kernel) (fun _ _ _ h => h) (Or.inl ⟨by rfl, ?_⟩) hSw ?_
  rotate_left
  · intro w hw; go_simp; try with_reducible rfl
  simp only [Act.put, List.getElem_toArray, List.getElem_cons_zero, List.getElem_cons_succ, List.setIfInBounds_toArray, List.set_cons_zero, List.set_cons_succ]
  refine wpAnyH_take (i := 4) (v := ?_) rfl (by decide +kernel) (by decide +kernel) (by decide +kernel) (fun _ _ _ h => h) (Or.inl ⟨by rfl, ?_⟩) hSw ?_
  rotate_left
  · intro w hw; go_simp; try with_reducible rfl
  simp only [Act.put, List.getElem_toArray, List.getElem_cons_zero, List.getElem_cons_succ, List.setIfInBounds_toArray, List.set_cons_zero, List.set_cons_succ]
  refine wpAnyH_take (i := 5) (v := ?_) rfl (by decide +kernel) (by decide +kernel) (by decide +kernel) (fun _ _ _ h => h) (Or.inl ⟨by rfl, ?_⟩) hSw ?_
  rotate_left
  · intro w hw; go_simp; try with_reducible rfl
  simp only [Act.put, List.getElem_toArray, List.getElem_cons_zero, List.getElem_cons_succ, List.setIfInBounds_toArray, List.set_cons_zero, List.set_cons_succ]
  refine wpAnyH_take (i := 6) (v := ?_) rfl (by decide +kernel) (by decide +kernel) (by decide +kernel) (fun _ _ _ h => h) (Or.inl ⟨by rfl, ?_⟩) hSw ?_
  rotate_left
  · intro w hw; go_simp; try with_reducible rfl
  simp only [Act.put, List.getElem_toArray, List.getElem_cons_zero, List.getElem_cons_succ, List.setIfInBounds_toArray, List.set_cons_zero, List.set_cons_succ]
  refine wpAnyH_take (i := 7) (v := ?_) rfl (by decide +kernel) (by decide +kernel) (by decide +kernel) (fun _ _ _ h => h) (Or.inl ⟨by rfl, ?_⟩) hSw ?_
  rotate_left
  · intro w hw; obtain ⟨hc0, hc1, hc2⟩ := hw; go_simp; try with_reducible rfl
  simp only [Act.put, List.getElem_toArray, List.getElem_cons_zero, List.getElem_cons_succ, List.setIfInBounds_toArray, List.set_cons_zero, List.set_cons_succ]
  refine wpAnyH_ready (rs := [8]) (by kernel_rfl) (by simp) ?_
  refine AllReadyH.cons rfl (fun K hK => ?_) AllReadyH.nil
  go_simp
  refine T.out.mono ?_
  rintro e w2 ⟨rfl, hW2, hE2⟩
  have hG2 : GdAt w2 A ⟨g.st, g.wi, g.sk, (takeW g.st g.wi g.sk g.x xs 0).1, false⟩ := by rw [← hb]; exact hW2
  obtain ⟨d0, d1, d2, d3, d4, d5, d6, d7, d8⟩ := hG2.lims
  refine hK.out _ _ ⟨d0, d1, d2⟩ (fun hSw => ?_)
  clear hK K T
  refine wpAnyH_take (i := 9) (v := ?_) rfl (by decide +kernel) (by decide +kernel) (by decide +kernel) (fun _ _ _ h => h) (Or.inl ⟨by rfl, ?_⟩) hSw ?_
  rotate_left
  · intro w hw; go_simp; try with_reducible rfl
  simp only [Act.put, List.getElem_toArray, List.getElem_cons_zero, List.getElem_cons_succ, List.setIfInBounds_toArray, List.set_cons_zero, List.set_cons_succ]
  refine wpAnyH_done (by kernel_rfl) ?_ _
  have HE2 : Hd (Ex A w w2) := hid ((Ex.refl A w).drew.trans hE2)
  clear hW2 hE2 hSw c0 c1 c2 c8
  dsimp only at d0 d1 d2 d3 d4 d5 d6 d7 d8
  rcases hT : takeW g.st g.wi g.sk g.x xs 0 with ⟨y, _ | ⟨b, k⟩⟩
  · rw [hT] at hG2
    have he : fedG g xs = ((xs.length : Int), 0, ⟨g.st, g.wi, g.sk, y, false⟩) := by unfold fedG; rw [hT]
    have He := hid he
    have HG := hid hG2
    clear hG2 d0 d1 d2 d3 d4 d5 d6 d7 d8 he hT
    dsimp only [faultV]
    go_wp2
    go_ret2
    rw [He.out]
    exact ⟨rfl, HG.out, HE2.out⟩
  · rw [hT] at hG2 d3 d4 d5 d6 d7
    dsimp only at d3 d4 d5 d6 d7
    cases b
    · have he : fedG g xs = ((k : Int), 4, ⟨g.st, g.wi, g.sk, W0, true⟩) := by unfold fedG; rw [hT]
      have He := hid he
      have HG := hid (wrG_at hG2 g.st g.wi g.sk true)
      have HX := hid (HE2.out.trans (wrG_ex w2 A g.st g.wi g.sk true))
      have f := fun j => WsAt.frozen hG2 j
      have f0 := f 0
      have f1 := f 1
      have f2 := f 2
      have f3 := f 3
      have f4 := f 4
      have f5 := f 5
      have f6 := f 6
      have f7 := f 7
      have f8 := f 8
      have hme := Try.mAhead1 (k : Int)
      clear f hG2 he hT HE2 hl'
      dsimp only [faultV]
      go_wp2_with fail
      change Calls _ _ _ (wrG w2 A g.st g.wi g.sk true) _
      generalize wrG w2 A g.st g.wi g.sk true = w3 at *
      refine (ahead1 (k : Int) w3).mono ?_
      rintro e w4 ⟨rfl, rfl⟩
      clear hme f0 f1 f2 f3 f4 f5 f6 f7 f8 d0 d1 d2 d3 d4 d5 d6 d7 d8
      go_wp2_with fail
      refine (fault1 (k : Int) _).mono ?_
      rintro e w5 ⟨rfl, rfl⟩
      go_wp2
      go_ret2
      rw [He.out]
      exact ⟨rfl, HG.out, HX.out⟩
    · have he : fedG g xs = ((k : Int), 5, ⟨g.st, g.wi, g.sk, W0, true⟩) := by unfold fedG; rw [hT]
      have He := hid he
      have HG := hid (wrG_at hG2 g.st g.wi g.sk true)
      have HX := hid (HE2.out.trans (wrG_ex w2 A g.st g.wi g.sk true))
      have f := fun j => WsAt.frozen hG2 j
      have f0 := f 0
      have f1 := f 1
      have f2 := f 2
      have f3 := f 3
      have f4 := f 4
      have f5 := f 5
      have f6 := f 6
      have f7 := f 7
      have f8 := f 8
      have hme := Try.mAhead2 (k : Int)
      clear f hG2 he hT HE2 hl'
      dsimp only [faultV]
      go_wp2_with fail
      change Calls _ _ _ (wrG w2 A g.st g.wi g.sk true) _
      generalize wrG w2 A g.st g.wi g.sk true = w3 at *
      refine (ahead2 (k : Int) w3).mono ?_
      rintro e w4 ⟨rfl, rfl⟩
      clear hme f0 f1 f2 f3 f4 f5 f6 f7 f8 d0 d1 d2 d3 d4 d5 d6 d7 d8
      go_wp2_with fail
      refine (fault2 (k : Int) _).mono ?_
      rintro e w5 ⟨rfl, rfl⟩
      go_wp2
      go_ret2
      rw [He.out]
      exact ⟨rfl, HG.out, HX.out⟩
end Go.Proofs.Ytbifmhbkmnofiaa
