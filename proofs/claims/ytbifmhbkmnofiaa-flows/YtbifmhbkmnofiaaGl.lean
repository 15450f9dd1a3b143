import Derived.Test.YtbifmhbkmnofiaaGk
namespace Go.Proofs.Ytbifmhbkmnofiaa
open Go.RowKit
set_option linter.unusedVariables false
set_option linter.unusedSimpArgs false
/-- a number of another block is added to V -/
theorem sadd_new (g : SG) (o : List Int) (B sb n : Nat) (t : TypeId) (w : World) (hg : g.ok) (hS : SgAt w B g) (ho : w.heap[sb]? = some (.cells (ints .u8 o) t (0, 0))) (hsb : sb ≠ B) (hol : o.length = n) (hn : n ≤ 1000) (hoB : allB o) :
    Calls Try.prog 90 #[.pointer (some ⟨B, 0, none⟩), .slice (some ⟨sb, 0, none⟩) n n] w fun e w' => e = .returned (.tuple #[]) ∧ SgAt w' B ⟨addI g.v o, g.c⟩ ∧ Ex B w w' := by
  subst hol
  refine (nadd_any g.v o B sb 0 o.length 0 [] (g.c.map (Value.int .u8)) w hg.vl hg.vb hoB hn rfl hS.v ?_).mono ?_
  · intro wr X _ _ hE j hj
    have h1 := (hE.block sb (Array.getElem?_eq_some_iff.1 ho).1 hsb).trans ho
    rw [Nat.zero_add]
    exact (cells_of _ _ _ _ _ h1).1 j hj
  · rintro e w' ⟨rfl, h1, h2⟩
    exact ⟨rfl, SgAt.of_v h1, h2⟩
/-- C is added to V -/
theorem sadd_own (g : SG) (B : Nat) (w : World) (hg : g.ok) (hS : SgAt w B g) :
    Calls Try.prog 90 #[.pointer (some ⟨B, 0, none⟩), .slice (some ⟨B, 55, none⟩) 55 55] w fun e w' => e = .returned (.tuple #[]) ∧ SgAt w' B ⟨addI g.v g.c, g.c⟩ ∧ Ex B w w' := by
  have := nadd_any g.v g.c B B 55 55 0 [] (g.c.map (Value.int .u8)) w hg.vl hg.vb hg.cb (by rw [hg.cl]; omega) rfl hS.v (by
    intro wr X hX hXl _ j hj
    rw [hX.cell, List.nil_append, List.getElem?_append_right (by simp [hXl])]
    simp [hXl, List.getElem?_eq_getElem hj])
  rw [hg.cl] at this
  refine this.mono ?_
  rintro e w' ⟨rfl, h1, h2⟩
  exact ⟨rfl, SgAt.of_v h1, h2⟩
def extraS (g : SG) (xs : List Int) : SG := if xs = [] then g else ⟨addI g.v (markI 2 g.v xs), g.c⟩
theorem addS_ok {g : SG} (h : g.ok) (o : List Int) : (⟨addI g.v o, g.c⟩ : SG).ok := ⟨addI_len _ _, h.cl, addI_B _ _, h.cb⟩
theorem extraS_ok {g : SG} (h : g.ok) (xs : List Int) : (extraS g xs).ok := by
  unfold extraS
  split
  · exact h
  · exact addS_ok h _
def bytesS (g : SG) (n : Nat) (xs : List Int) : List Int := drawS (extraS g xs).v n
def behindS (g : SG) (xs : List Int) (r : Int) : SG := ⟨addI (addI (addI (extraS g xs).v (markI 3 (extraS g xs).v [])) (extraS g xs).c) (be8 r), (extraS g xs).c⟩
theorem behindS_eq (g : SG) (xs : List Int) (r : Int) : behindS g xs r = ⟨addI (addI (addI (extraS g xs).v (markI 3 (extraS g xs).v [])) (extraS g xs).c) (be8 r), (extraS g xs).c⟩ := by simp only [behindS]
theorem behindS_ok {g : SG} (h : g.ok) (xs : List Int) (r : Int) : (behindS g xs r).ok := by
  rw [behindS_eq]
  exact ⟨addI_len _ _, (extraS_ok h xs).cl, addI_B _ _, (extraS_ok h xs).cb⟩
theorem bytesS_len (g : SG) (n : Nat) (xs : List Int) : (bytesS g n xs).length = n := drawS_len _ _
theorem bytesS_few (g : SG) (n m : Nat) (xs : List Int) (hnm : n ≤ m) : bytesS g n xs = (bytesS g m xs).take n := drawS_few _ _ _ hnm
set_option maxRecDepth 20000 in
set_option maxHeartbeats 2000000 in
theorem sread_any (g : SG) (n : Nat) (r : Int) (v : Value) (xs : List Int) (B : Nat) (w : World) (hg : g.ok) (hS : SgAt w B g) (hv : Src w v xs) (hx : xs.length ≤ 1000) (hn : n ≤ 100000) (hr0 : 0 ≤ r) (hr1 : r ≤ 18446744073709551615) :
    Calls Try.prog 87 #[.pointer (some ⟨B, 0, none⟩), .int .i64 n, v, .int .u64 r] w fun e w' => ∃ gb, e = .returned (.slice (some ⟨gb, 0, none⟩) n n) ∧ w.heap.size ≤ gb ∧ w'.heap[gb]? = some (.cells (ints .u8 (bytesS g n xs)) 5 (0, 0)) ∧ SgAt w' B (behindS g xs r) ∧ Ex B w w' := by
  obtain ⟨ao, cp, hve⟩ := hv.form
  rw [hve] at hv
  rw [hve]
  clear hve
  have HV := hid hv
  have hlt := hS.lt
  have hg1 := extraS_ok hg xs
  have Hr := hid (show bytesS g n xs = drawS (extraS g xs).v n from rfl)
  have Hb := hid (behindS_eq g xs r)
  clear hv
  go_enter Try.func87, Try.ntmps87
  by_cases h0 : xs = []
  · subst h0
    have e1 : extraS g [] = g := by unfold extraS; rw [if_pos rfl]
    rw [← e1] at hS
    generalize extraS g [] = g1 at *
    have hE1 := Ex.refl B w
    have hS1 := hS
    clear hS e1
    have hlt1 := hS1.lt
    clear HV
    go_wp2_with fail
    refine (draw_any g1 n B _ hg1 hS1 hn).mono ?_
    rintro e w2 ⟨gb, rfl, hgb, hr2, hB2⟩
    rw [← Hr.out] at hr2
    have hS2 := hS1.other (hB2.block B hlt1)
    have hE2 := hE1.trans (Ex.of_below (B := B) hB2)
    have hz1 := hE1.size
    have hgl2 : gb < w2.heap.size := (Array.getElem?_eq_some_iff.1 hr2).1
    have HR2 := hid hr2
    have HS2 := hid hS2
    have HE2 := hid hE2
    clear hS1 hE1 hB2 hr2 hS2 hE2 Hr
    go_wp2_with fail
    refine wp_region_any (by kernel_rfl) ?_
    change wpAny _ _ _ _ _ _ _ (World.drew _)
    refine wpAny_take (i := 0) (v := ?_) rfl (by decide +kernel) (by decide +kernel) (by decide +kernel) (fun _ _ _ h => h) (Or.inl ⟨by rfl, ?_⟩) ?_
    rotate_left
    · intro w; go_simp; try with_reducible rfl
    simp only [Act.put, List.getElem_toArray, List.getElem_cons_zero, List.getElem_cons_succ, List.setIfInBounds_toArray, List.set_cons_zero, List.set_cons_succ]
    refine wpAny_take (i := 1) (v := ?_) rfl (by decide +kernel) (by decide +kernel) (by decide +kernel) (fun _ _ _ h => h) (Or.inl ⟨by rfl, ?_⟩) ?_
    rotate_left
    · intro w; go_simp; try with_reducible rfl
    simp only [Act.put, List.getElem_toArray, List.getElem_cons_zero, List.getElem_cons_succ, List.setIfInBounds_toArray, List.set_cons_zero, List.set_cons_succ]
    refine wpAny_take (i := 2) (v := ?_) rfl (by decide +kernel) (by decide +kernel) (by decide +kernel) (fun _ _ _ h => h) (Or.inl ⟨by rfl, ?_⟩) ?_
    rotate_left
    · intro w; go_simp; try with_reducible rfl
    simp only [Act.put, List.getElem_toArray, List.getElem_cons_zero, List.getElem_cons_succ, List.setIfInBounds_toArray, List.set_cons_zero, List.set_cons_succ]
    refine wpAny_take (i := 3) (v := ?_) rfl (by decide +kernel) (by decide +kernel) (by decide +kernel) (fun _ _ _ h => h) (Or.inl ⟨by rfl, ?_⟩) ?_
    rotate_left
    · intro w; go_simp; try with_reducible rfl
    simp only [Act.put, List.getElem_toArray, List.getElem_cons_zero, List.getElem_cons_succ, List.setIfInBounds_toArray, List.set_cons_zero, List.set_cons_succ]
    refine wpAny_ready (rs := [4]) (by kernel_rfl) (by simp) ?_
    refine AllReady.cons rfl (fun K hK => ?_) AllReady.nil
    go_simp
    refine (marked_any g1 3 _ [] B w2.drew hg1 (show SgAt w2.drew B g1 from HS2.out) (Src.nil _) (by simp)).mono ?_
    rintro e w3 ⟨sb, rfl, hsb, hm3, hB3⟩
    refine hK _ _ ?_
    clear hK K
    have hlt2 := HS2.out.lt
    have hS3 := HS2.out.other (hB3.block B hlt2)
    have HR3 := hid ((hB3.block gb hgl2).trans HR2.out)
    have hgl3 : gb < w3.heap.size := (Array.getElem?_eq_some_iff.1 HR3.out).1
    have HE3 := hid (HE2.out.drew.trans (Ex.of_below (B := B) hB3))
    have hml := markI_len 3 g1.v []
    have hmb := hid (markI_B 3 g1.v [])
    generalize markI 3 g1.v [] = mk at *
    have hsbB : sb ≠ B := by have : w2.heap.size ≤ sb := hsb; omega
    clear hsb HR2 HE2 HS2 hB3
    refine wpAny_ready (rs := [5]) (by kernel_rfl) (by simp) ?_
    refine AllReady.cons rfl (fun K hK => ?_) AllReady.nil
    go_simp
    refine (sadd_new g1 mk B sb 32 68 _ hg1 hS3 hm3 hsbB hml (by omega) hmb.out).mono ?_
    rintro e w4 ⟨rfl, hS4, hE4⟩
    refine hK _ _ ?_
    clear hK K
    have HR4 := hid ((hE4.block gb hgl3 (by omega)).trans HR3.out)
    have hgl4 : gb < w4.heap.size := (Array.getElem?_eq_some_iff.1 HR4.out).1
    have HE4 := hid (HE3.out.trans hE4)
    have hg2 := addS_ok hg1 mk
    clear HR3 HE3 hE4 hS3 hm3 hmb
    refine wpAny_done (by kernel_rfl) ?_ _
    go_wp2_with fail
    refine wp_region_any (by kernel_rfl) ?_
    change wpAny _ _ _ _ _ _ _ (World.drew _)
    refine wpAny_take (i := 0) (v := ?_) rfl (by decide +kernel) (by decide +kernel) (by decide +kernel) (fun _ _ _ h => h) (Or.inl ⟨by rfl, ?_⟩) ?_
    rotate_left
    · intro w; go_simp; try with_reducible rfl
    simp only [Act.put, List.getElem_toArray, List.getElem_cons_zero, List.getElem_cons_succ, List.setIfInBounds_toArray, List.set_cons_zero, List.set_cons_succ]
    refine wpAny_take (i := 1) (v := ?_) rfl (by decide +kernel) (by decide +kernel) (by decide +kernel) (fun _ _ _ h => h) (Or.inl ⟨by rfl, ?_⟩) ?_
    rotate_left
    · intro w; go_simp; try with_reducible rfl
    simp only [Act.put, List.getElem_toArray, List.getElem_cons_zero, List.getElem_cons_succ, List.setIfInBounds_toArray, List.set_cons_zero, List.set_cons_succ]
    refine wpAny_take (i := 2) (v := ?_) rfl (by decide +kernel) (by decide +kernel) (by decide +kernel) (fun _ _ _ h => h) (Or.inl ⟨by rfl, ?_⟩) ?_
    rotate_left
    · intro w; go_simp; try with_reducible rfl
    simp only [Act.put, List.getElem_toArray, List.getElem_cons_zero, List.getElem_cons_succ, List.setIfInBounds_toArray, List.set_cons_zero, List.set_cons_succ]
    refine wpAny_take (i := 3) (v := ?_) rfl (by decide +kernel) (by decide +kernel) (by decide +kernel) (fun _ _ _ h => h) (Or.inl ⟨by rfl, ?_⟩) ?_
    rotate_left
    · intro w; go_simp; try with_reducible rfl
    simp only [Act.put, List.getElem_toArray, List.getElem_cons_zero, List.getElem_cons_succ, List.setIfInBounds_toArray, List.set_cons_zero, List.set_cons_succ]
    refine wpAny_take (i := 4) (v := ?_) rfl (by decide +kernel) (by decide +kernel) (by decide +kernel) (fun _ _ _ h => h) (Or.inl ⟨by rfl, ?_⟩) ?_
    rotate_left
    · intro w; go_simp; try with_reducible rfl
    simp only [Act.put, List.getElem_toArray, List.getElem_cons_zero, List.getElem_cons_succ, List.setIfInBounds_toArray, List.set_cons_zero, List.set_cons_succ]
    refine wpAny_take (i := 5) (v := ?_) rfl (by decide +kernel) (by decide +kernel) (by decide +kernel) (fun _ _ _ h => h) (Or.inl ⟨by rfl, ?_⟩) ?_
    rotate_left
    · intro w; go_simp; try with_reducible rfl
    simp only [Act.put, List.getElem_toArray, List.getElem_cons_zero, List.getElem_cons_succ, List.setIfInBounds_toArray, List.set_cons_zero, List.set_cons_succ]
    refine wpAny_take (i := 6) (v := ?_) rfl (by decide +kernel) (by decide +kernel) (by decide +kernel) (fun _ _ _ h => h) (Or.inl ⟨by rfl, ?_⟩) ?_
    rotate_left
    · intro w; go_simp; try with_reducible rfl
    simp only [Act.put, List.getElem_toArray, List.getElem_cons_zero, List.getElem_cons_succ, List.setIfInBounds_toArray, List.set_cons_zero, List.set_cons_succ]
    refine wpAny_ready (rs := [7]) (by kernel_rfl) (by simp) ?_
    refine AllReady.cons rfl (fun K hK => ?_) AllReady.nil
    go_simp
    refine (sadd_own ⟨addI g1.v mk, g1.c⟩ B w4.drew hg2 (show SgAt w4.drew B ⟨addI g1.v mk, g1.c⟩ from hS4)).mono ?_
    rintro e w5 ⟨rfl, hS5, hE5⟩
    refine hK _ _ ?_
    clear hK K
    dsimp only at hS5
    have HR5 := hid ((hE5.block gb hgl4 (by omega)).trans HR4.out)
    have hgl5 : gb < w5.heap.size := (Array.getElem?_eq_some_iff.1 HR5.out).1
    have HE5 := hid (HE4.out.drew.trans hE5)
    clear HR4 HE4 hE5 hS4
    refine wpAny_done (by kernel_rfl) ?_ _
    go_wp2_with fail
    refine (nsmall_any _ r B 0 [] _ _ (addI_len _ _) (addI_B _ _) rfl hS5.v hr0 hr1).mono ?_
    rintro e w6 ⟨rfl, hN6, hE6⟩
    have hS6 := SgAt.of_v hN6
    dsimp only at hS6
    rw [← Hb.out] at hS6
    have HR6 := hid ((hE6.block gb hgl5 (by omega)).trans HR5.out)
    have HE6 := hid (HE5.out.trans hE6)
    have HS6 := hid hS6
    clear HR5 HE5 hE6 hN6 hS6 hS5
    go_wp2
    go_ret
    exact ⟨gb, rfl, by omega, HR6.out, HS6.out, HE6.out⟩
  · have hp : 0 < xs.length := List.length_pos_iff.2 h0
    have hp' : (0 : Int) < xs.length := by omega
    have e1 : extraS g xs = ⟨addI g.v (markI 2 g.v xs), g.c⟩ := by unfold extraS; rw [if_neg h0]
    have He1 := hid e1
    have hml := markI_len 2 g.v xs
    have hmb := hid (markI_B 2 g.v xs)
    clear e1
    go_wp2_with fail
    refine wp_region_any (by kernel_rfl) ?_
    change wpAny _ _ _ _ _ _ _ (World.drew _)
    refine wpAny_take (i := 0) (v := ?_) rfl (by decide +kernel) (by decide +kernel) (by decide +kernel) (fun _ _ _ h => h) (Or.inl ⟨by rfl, ?_⟩) ?_
    rotate_left
    · intro w; go_simp; try with_reducible rfl
    simp only [Act.put, List.getElem_toArray, List.getElem_cons_zero, List.getElem_cons_succ, List.setIfInBounds_toArray, List.set_cons_zero, List.set_cons_succ]
    refine wpAny_take (i := 1) (v := ?_) rfl (by decide +kernel) (by decide +kernel) (by decide +kernel) (fun _ _ _ h => h) (Or.inl ⟨by rfl, ?_⟩) ?_
    rotate_left
    · intro w; go_simp; try with_reducible rfl
    simp only [Act.put, List.getElem_toArray, List.getElem_cons_zero, List.getElem_cons_succ, List.setIfInBounds_toArray, List.set_cons_zero, List.set_cons_succ]
    refine wpAny_take (i := 2) (v := ?_) rfl (by decide +kernel) (by decide +kernel) (by decide +kernel) (fun _ _ _ h => h) (Or.inl ⟨by rfl, ?_⟩) ?_
    rotate_left
    · intro w; go_simp; try with_reducible rfl
    simp only [Act.put, List.getElem_toArray, List.getElem_cons_zero, List.getElem_cons_succ, List.setIfInBounds_toArray, List.set_cons_zero, List.set_cons_succ]
    refine wpAny_take (i := 3) (v := ?_) rfl (by decide +kernel) (by decide +kernel) (by decide +kernel) (fun _ _ _ h => h) (Or.inl ⟨by rfl, ?_⟩) ?_
    rotate_left
    · intro w; go_simp; try with_reducible rfl
    simp only [Act.put, List.getElem_toArray, List.getElem_cons_zero, List.getElem_cons_succ, List.setIfInBounds_toArray, List.set_cons_zero, List.set_cons_succ]
    refine wpAny_take (i := 4) (v := ?_) rfl (by decide +kernel) (by decide +kernel) (by decide +kernel) (fun _ _ _ h => h) (Or.inl ⟨by rfl, ?_⟩) ?_
    rotate_left
    · intro w; go_simp; try with_reducible rfl
    simp only [Act.put, List.getElem_toArray, List.getElem_cons_zero, List.getElem_cons_succ, List.setIfInBounds_toArray, List.set_cons_zero, List.set_cons_succ]
    refine wpAny_ready (rs := [5]) (by kernel_rfl) (by simp) ?_
    refine AllReady.cons rfl (fun K hK => ?_) AllReady.nil
    go_simp
    refine (marked_any g 2 _ xs B w.drew hg (show SgAt w.drew B g from hS) (src_drew HV.out) hx).mono ?_
    rintro e w0 ⟨sb, rfl, hsb, hm0, hB0⟩
    refine hK _ _ ?_
    clear hK K
    have hS0 := hS.other (hB0.block B hlt)
    have HE0 := hid ((Ex.refl B w).drew.trans (Ex.of_below (B := B) hB0))
    have hsbB : sb ≠ B := by have : w.heap.size ≤ sb := hsb; omega
    clear hS hB0 hsb
    refine wpAny_ready (rs := [6]) (by kernel_rfl) (by simp) ?_
    refine AllReady.cons rfl (fun K hK => ?_) AllReady.nil
    go_simp
    refine (sadd_new g _ B sb 32 68 _ hg hS0 hm0 hsbB hml (by omega) hmb.out).mono ?_
    rintro e w1 ⟨rfl, hS1, hE1'⟩
    refine hK _ _ ?_
    clear hK K
    have hE1 := HE0.out.trans hE1'
    rw [← He1.out] at hS1
    generalize extraS g xs = g1 at *
    clear hE1' hS0 hm0 HE0 He1 hml hmb hsbB
    refine wpAny_done (by kernel_rfl) ?_ _
    have hlt1 := hS1.lt
    clear HV
    go_wp2_with fail
    refine (draw_any g1 n B _ hg1 hS1 hn).mono ?_
    rintro e w2 ⟨gb, rfl, hgb, hr2, hB2⟩
    rw [← Hr.out] at hr2
    have hS2 := hS1.other (hB2.block B hlt1)
    have hE2 := hE1.trans (Ex.of_below (B := B) hB2)
    have hz1 := hE1.size
    have hgl2 : gb < w2.heap.size := (Array.getElem?_eq_some_iff.1 hr2).1
    have HR2 := hid hr2
    have HS2 := hid hS2
    have HE2 := hid hE2
    clear hS1 hE1 hB2 hr2 hS2 hE2 Hr
    go_wp2_with fail
    refine wp_region_any (by kernel_rfl) ?_
    change wpAny _ _ _ _ _ _ _ (World.drew _)
    refine wpAny_take (i := 0) (v := ?_) rfl (by decide +kernel) (by decide +kernel) (by decide +kernel) (fun _ _ _ h => h) (Or.inl ⟨by rfl, ?_⟩) ?_
    rotate_left
    · intro w; go_simp; try with_reducible rfl
    simp only [Act.put, List.getElem_toArray, List.getElem_cons_zero, List.getElem_cons_succ, List.setIfInBounds_toArray, List.set_cons_zero, List.set_cons_succ]
    refine wpAny_take (i := 1) (v := ?_) rfl (by decide +kernel) (by decide +kernel) (by decide +kernel) (fun _ _ _ h => h) (Or.inl ⟨by rfl, ?_⟩) ?_
    rotate_left
    · intro w; go_simp; try with_reducible rfl
    simp only [Act.put, List.getElem_toArray, List.getElem_cons_zero, List.getElem_cons_succ, List.setIfInBounds_toArray, List.set_cons_zero, List.set_cons_succ]
    refine wpAny_take (i := 2) (v := ?_) rfl (by decide +kernel) (by decide +kernel) (by decide +kernel) (fun _ _ _ h => h) (Or.inl ⟨by rfl, ?_⟩) ?_
    rotate_left
    · intro w; go_simp; try with_reducible rfl
    simp only [Act.put, List.getElem_toArray, List.getElem_cons_zero, List.getElem_cons_succ, List.setIfInBounds_toArray, List.set_cons_zero, List.set_cons_succ]
    refine wpAny_take (i := 3) (v := ?_) rfl (by decide +kernel) (by decide +kernel) (by decide +kernel) (fun _ _ _ h => h) (Or.inl ⟨by rfl, ?_⟩) ?_
    rotate_left
    · intro w; go_simp; try with_reducible rfl
    simp only [Act.put, List.getElem_toArray, List.getElem_cons_zero, List.getElem_cons_succ, List.setIfInBounds_toArray, List.set_cons_zero, List.set_cons_succ]
    refine wpAny_ready (rs := [4]) (by kernel_rfl) (by simp) ?_
    refine AllReady.cons rfl (fun K hK => ?_) AllReady.nil
    go_simp
    refine (marked_any g1 3 _ [] B w2.drew hg1 (show SgAt w2.drew B g1 from HS2.out) (Src.nil _) (by simp)).mono ?_
    rintro e w3 ⟨sb, rfl, hsb, hm3, hB3⟩
    refine hK _ _ ?_
    clear hK K
    have hlt2 := HS2.out.lt
    have hS3 := HS2.out.other (hB3.block B hlt2)
    have HR3 := hid ((hB3.block gb hgl2).trans HR2.out)
    have hgl3 : gb < w3.heap.size := (Array.getElem?_eq_some_iff.1 HR3.out).1
    have HE3 := hid (HE2.out.drew.trans (Ex.of_below (B := B) hB3))
    have hml := markI_len 3 g1.v []
    have hmb := hid (markI_B 3 g1.v [])
    generalize markI 3 g1.v [] = mk at *
    have hsbB : sb ≠ B := by have : w2.heap.size ≤ sb := hsb; omega
    clear hsb HR2 HE2 HS2 hB3
    refine wpAny_ready (rs := [5]) (by kernel_rfl) (by simp) ?_
    refine AllReady.cons rfl (fun K hK => ?_) AllReady.nil
    go_simp
    refine (sadd_new g1 mk B sb 32 68 _ hg1 hS3 hm3 hsbB hml (by omega) hmb.out).mono ?_
    rintro e w4 ⟨rfl, hS4, hE4⟩
    refine hK _ _ ?_
    clear hK K
    have HR4 := hid ((hE4.block gb hgl3 (by omega)).trans HR3.out)
    have hgl4 : gb < w4.heap.size := (Array.getElem?_eq_some_iff.1 HR4.out).1
    have HE4 := hid (HE3.out.trans hE4)
    have hg2 := addS_ok hg1 mk
    clear HR3 HE3 hE4 hS3 hm3 hmb
    refine wpAny_done (by kernel_rfl) ?_ _
    go_wp2_with fail
    refine wp_region_any (by kernel_rfl) ?_
    change wpAny _ _ _ _ _ _ _ (World.drew _)
    refine wpAny_take (i := 0) (v := ?_) rfl (by decide +kernel) (by decide +kernel) (by decide +kernel) (fun _ _ _ h => h) (Or.inl ⟨by rfl, ?_⟩) ?_
    rotate_left
    · intro w; go_simp; try with_reducible rfl
    simp only [Act.put, List.getElem_toArray, List.getElem_cons_zero, List.getElem_cons_succ, List.setIfInBounds_toArray, List.set_cons_zero, List.set_cons_succ]
    refine wpAny_take (i := 1) (v := ?_) rfl (by decide +kernel) (by decide +kernel) (by decide +kernel) (fun _ _ _ h => h) (Or.inl ⟨by rfl, ?_⟩) ?_
    rotate_left
    · intro w; go_simp; try with_reducible rfl
    simp only [Act.put, List.getElem_toArray, List.getElem_cons_zero, List.getElem_cons_succ, List.setIfInBounds_toArray, List.set_cons_zero, List.set_cons_succ]
    refine wpAny_take (i := 2) (v := ?_) rfl (by decide +kernel) (by decide +kernel) (by decide +kernel) (fun _ _ _ h => h) (Or.inl ⟨by rfl, ?_⟩) ?_
    rotate_left
    · intro w; go_simp; try with_reducible rfl
    simp only [Act.put, List.getElem_toArray, List.getElem_cons_zero, List.getElem_cons_succ, List.setIfInBounds_toArray, List.set_cons_zero, List.set_cons_succ]
    refine wpAny_take (i := 3) (v := ?_) rfl (by decide +kernel) (by decide +kernel) (by decide +kernel) (fun _ _ _ h => h) (Or.inl ⟨by rfl, ?_⟩) ?_
    rotate_left
    · intro w; go_simp; try with_reducible rfl
    simp only [Act.put, List.getElem_toArray, List.getElem_cons_zero, List.getElem_cons_succ, List.setIfInBounds_toArray, List.set_cons_zero, List.set_cons_succ]
    refine wpAny_take (i := 4) (v := ?_) rfl (by decide +kernel) (by decide +kernel) (by decide +kernel) (fun _ _ _ h => h) (Or.inl ⟨by rfl, ?_⟩) ?_
    rotate_left
    · intro w; go_simp; try with_reducible rfl
    simp only [Act.put, List.getElem_toArray, List.getElem_cons_zero, List.getElem_cons_succ, List.setIfInBounds_toArray, List.set_cons_zero, List.set_cons_succ]
    refine wpAny_take (i := 5) (v := ?_) rfl (by decide +kernel) (by decide +kernel) (by decide +kernel) (fun _ _ _ h => h) (Or.inl ⟨by rfl, ?_⟩) ?_
    rotate_left
    · intro w; go_simp; try with_reducible rfl
    simp only [Act.put, List.getElem_toArray, List.getElem_cons_zero, List.getElem_cons_succ, List.setIfInBounds_toArray, List.set_cons_zero, List.set_cons_succ]
    refine wpAny_take (i := 6) (v := ?_) rfl (by decide +kernel) (by decide +kernel) (by decide +kernel) (fun _ _ _ h => h) (Or.inl ⟨by rfl, ?_⟩) ?_
    rotate_left
    · intro w; go_simp; try with_reducible rfl
    simp only [Act.put, List.getElem_toArray, List.getElem_cons_zero, List.getElem_cons_succ, List.setIfInBounds_toArray, List.set_cons_zero, List.set_cons_succ]
    refine wpAny_ready (rs := [7]) (by kernel_rfl) (by simp) ?_
    refine AllReady.cons rfl (fun K hK => ?_) AllReady.nil
    go_simp
    refine (sadd_own ⟨addI g1.v mk, g1.c⟩ B w4.drew hg2 (show SgAt w4.drew B ⟨addI g1.v mk, g1.c⟩ from hS4)).mono ?_
    rintro e w5 ⟨rfl, hS5, hE5⟩
    refine hK _ _ ?_
    clear hK K
    dsimp only at hS5
    have HR5 := hid ((hE5.block gb hgl4 (by omega)).trans HR4.out)
    have hgl5 : gb < w5.heap.size := (Array.getElem?_eq_some_iff.1 HR5.out).1
    have HE5 := hid (HE4.out.drew.trans hE5)
    clear HR4 HE4 hE5 hS4
    refine wpAny_done (by kernel_rfl) ?_ _
    go_wp2_with fail
    refine (nsmall_any _ r B 0 [] _ _ (addI_len _ _) (addI_B _ _) rfl hS5.v hr0 hr1).mono ?_
    rintro e w6 ⟨rfl, hN6, hE6⟩
    have hS6 := SgAt.of_v hN6
    dsimp only at hS6
    rw [← Hb.out] at hS6
    have HR6 := hid ((hE6.block gb hgl5 (by omega)).trans HR5.out)
    have HE6 := hid (HE5.out.trans hE6)
    have HS6 := hid hS6
    clear HR5 HE5 hE6 hN6 hS6 hS5
    go_wp2
    go_ret
    exact ⟨gb, rfl, by omega, HR6.out, HS6.out, HE6.out⟩

end Go.Proofs.Ytbifmhbkmnofiaa