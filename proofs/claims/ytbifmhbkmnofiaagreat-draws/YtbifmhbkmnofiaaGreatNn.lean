import Derived.Test.YtbifmhbkmnofiaaGreatNm
import Derived.Deep.DeepCutAuto
namespace Go.Proofs.YtbifmhbkmnofiaaGreat
open Go.RowKit
set_option linter.unusedVariables false
set_option linter.unusedSimpArgs false
/-- the tags behind a draw of a well -/
def drawTag (own : Nat → Tag) (n : Nat) (bs cs : List Nat) (i l : Nat) : Nat → Tag := fun b => if b < n then own b else if b ∈ bs then .we i else if b ∈ cs then .we i else .li l
theorem Turns.drew {w w' : World} {bs bs' : List Nat} (h : Turns w.drew w' bs bs') : Turns w w' bs bs' := ⟨⟨h.fr.1, h.fr.2, h.fr.3, h.fr.4, h.fr.5⟩, h.grow⟩
theorem WellAt.drew {w : World} {N A : Nat} {bs : List Nat} {x : Wel} (h : WellAt w N A bs x) : WellAt w.drew N A bs x := h.other (Nat.le_refl _) (fun _ _ => rfl)
set_option maxRecDepth 20000 in
set_option maxHeartbeats 4000000 in
theorem flows_rest (o : OpV) (N Wb k : Nat) (own : Nat → Tag) (t : Sta) (w : World) (h : Inv noTag w N Wb k own t) (ho : o.ok) (hk1 : 13 ≤ o.kind) (hk2 : o.kind ≤ 15) (h0 : 0 < t.wes.length) (hkb : (k + 1) * 96 ≤ 140737488355328) (hcb : (k + 1) * 200 ≤ 35184372088832) :
    Calls Tryz.prog 14 #[.pointer (some ⟨Wb, 0, none⟩), o.val] w fun e w' => e = .returned (.bool true) ∧ ∃ own' t', Inv noTag w' N Wb (k + 1) own' t' ∧ Nxt w w' own own' := by
  have HB := hid ((Below.refl w.heap.size w).alloc (Nat.le_refl _) o.obj)
  have hI := h.below HB.out .op
  have HO := hid (OpAt.new w o)
  have c0 := (hI.wb (fun hh => hh)).cell 3
  have hrow := hI.r3.own_ (fun hh => hh)
  have hsl := h.few.wes
  obtain ⟨p0, p1⟩ := pickI_bd o.a t.wes.length (by omega)
  obtain ⟨i, hi⟩ : ∃ i : Nat, pickI o.a t.wes.length = (i : Int) := ⟨(pickI o.a t.wes.length).toNat, by omega⟩
  rw [hi] at p0 p1
  have hil : i < t.wes.length := by omega
  obtain ⟨q, hgi⟩ : ∃ q, t.wes[i]? = some q := ⟨_, List.getElem?_eq_getElem hil⟩
  obtain ⟨f1, f2⟩ := flatP_get _ i (q.A, q.Y) (by rw [List.getElem?_map, hgi]; rfl)
  obtain ⟨g0, cap0, hv0⟩ : ∃ g cap, t.v3 = .slice (some ⟨g, 0, none⟩) t.wes.length cap := by
    rcases hrow.2 with ⟨hh, h1⟩ | ⟨g, cap, cur, hv, _, hg, _⟩
    · omega
    · exact ⟨g, cap, hv⟩
  have hob0 : t.v3.ownBlock = some g0 := by rw [hv0]; rfl
  have e1 := World.ownsRow.cells hrow (g := g0) hob0 _ _ f1
  have e2 := World.ownsRow.cells hrow (g := g0) hob0 _ _ f2
  rw [Addr.add_mid, Nat.zero_add] at e1 e2
  unfold pt at e1 e2
  have hv : t.vs[3]? = some t.v3 := rfl
  rw [hv, hv0] at c0
  have Hpk := hid (fun w' => lpick_any o.a t.wes.length w' ho.a0 ho.a1 (by omega) (by omega))
  rw [hi] at Hpk
  obtain ⟨o0, o1, o2, o3, o4, o5, o6, o7, o8, _⟩ := HO.out
  have HI := hid hI
  have HI0 := hid h
  have Hho := hid ho
  have Hz1 := hid (al_size w o.obj)
  clear hI h hv hv0 hrow f1 f2 ho hob0
  generalize how : w.alloc o.obj = w1 at *
  unfold OpV.obj at how
  obtain ⟨kd, a, n, s, t0, u, x, y, z⟩ := o
  dsimp only at *
  have b12 : (kd == 12) = false := bne_of (by omega)
  unfold OpV.val
  dsimp only
  go_enter Tryz.func14, Tryz.ntmps14
  go_upto_region 11 with fail
  clear how
  go_cut [9] (fun pv wr => pv = .pointer (some ⟨w1.heap.size, 0, none⟩) ∧ PairAt wr w1.heap.size q.A q.Y ∧ Below w1.heap.size w1 wr)
  case first =>
    refine wp_region_E (S := fun w' => w'.cell? ⟨Wb, 3, none⟩ = some (.slice (some ⟨g0, 0, none⟩) t.wes.length cap0) ∧ w'.cell? ⟨w.heap.size, 1, none⟩ = some (.int .i64 a) ∧ w'.cell? ⟨g0, i * 2, none⟩ = some (.pointer (some ⟨q.A, 0, none⟩)) ∧ w'.cell? ⟨g0, i * 2 + 1, none⟩ = some (.pointer (some ⟨q.Y, 0, none⟩))) 15 (by kernel_rfl) ⟨c0, o1, e1, e2⟩ (fun hSw => ?_)
    refine wpAnyE_take (i := 0) (v := ?_) rfl (by decide +kernel) (by decide) (by decide +kernel) (by decide +kernel) (by decide +kernel) (fun _ _ _ h => h) (Or.inl ⟨by rfl, ?_⟩) hSw ?_
    rotate_left
    · intro w hw; go_simp; try with_reducible rfl
    simp only [Act.put, List.getElem_toArray, List.getElem_cons_zero, List.getElem_cons_succ, List.setIfInBounds_toArray, List.set_cons_zero, List.set_cons_succ]
    refine wpAnyE_take (i := 1) (v := ?_) rfl (by decide +kernel) (by decide) (by decide +kernel) (by decide +kernel) (by decide +kernel) (fun _ _ _ h => h) (Or.inl ⟨by rfl, ?_⟩) hSw ?_
    rotate_left
    · intro w hw; go_simp; try with_reducible rfl
    simp only [Act.put, List.getElem_toArray, List.getElem_cons_zero, List.getElem_cons_succ, List.setIfInBounds_toArray, List.set_cons_zero, List.set_cons_succ]
    refine wpAnyE_take (i := 2) (v := ?_) rfl (by decide +kernel) (by decide) (by decide +kernel) (by decide +kernel) (by decide +kernel) (fun _ _ _ h => h) (Or.inl ⟨by rfl, ?_⟩) hSw ?_
    rotate_left
    · intro w hw; go_simp; try with_reducible rfl
    simp only [Act.put, List.getElem_toArray, List.getElem_cons_zero, List.getElem_cons_succ, List.setIfInBounds_toArray, List.set_cons_zero, List.set_cons_succ]
    refine wpAnyE_take (i := 3) (v := ?_) rfl (by decide +kernel) (by decide) (by decide +kernel) (by decide +kernel) (by decide +kernel) (fun _ _ _ h => h) (Or.inl ⟨by rfl, ?_⟩) hSw ?_
    rotate_left
    · intro w hw; have hcell := hw.1; clear hw; go_simp; try with_reducible rfl
    simp only [Act.put, List.getElem_toArray, List.getElem_cons_zero, List.getElem_cons_succ, List.setIfInBounds_toArray, List.set_cons_zero, List.set_cons_succ]
    refine wpAnyE_take (i := 4) (v := ?_) rfl (by decide +kernel) (by decide) (by decide +kernel) (by decide +kernel) (by decide +kernel) (fun _ _ _ h => h) (Or.inl ⟨by rfl, ?_⟩) hSw ?_
    rotate_left
    · intro w hw; go_simp; try with_reducible rfl
    simp only [Act.put, List.getElem_toArray, List.getElem_cons_zero, List.getElem_cons_succ, List.setIfInBounds_toArray, List.set_cons_zero, List.set_cons_succ]
    refine wpAnyE_take (i := 5) (v := ?_) rfl (by decide +kernel) (by decide) (by decide +kernel) (by decide +kernel) (by decide +kernel) (fun _ _ _ h => h) (Or.inl ⟨by rfl, ?_⟩) hSw ?_
    rotate_left
    · intro w hw; have hcell := hw.2.1; clear hw; go_simp; try with_reducible rfl
    simp only [Act.put, List.getElem_toArray, List.getElem_cons_zero, List.getElem_cons_succ, List.setIfInBounds_toArray, List.set_cons_zero, List.set_cons_succ]
    refine wpAnyE_take (i := 6) (v := ?_) rfl (by decide +kernel) (by decide) (by decide +kernel) (by decide +kernel) (by decide +kernel) (fun _ _ _ h => h) (Or.inl ⟨by rfl, ?_⟩) hSw ?_
    rotate_left
    · intro w hw; go_simp; try with_reducible rfl
    simp only [Act.put, List.getElem_toArray, List.getElem_cons_zero, List.getElem_cons_succ, List.setIfInBounds_toArray, List.set_cons_zero, List.set_cons_succ]
    refine wpAnyE_take (i := 7) (v := ?_) rfl (by decide +kernel) (by decide) (by decide +kernel) (by decide +kernel) (by decide +kernel) (fun _ _ _ h => h) (Or.inl ⟨by rfl, ?_⟩) hSw ?_
    rotate_left
    · intro w hw; go_simp; try with_reducible rfl
    simp only [Act.put, List.getElem_toArray, List.getElem_cons_zero, List.getElem_cons_succ, List.setIfInBounds_toArray, List.set_cons_zero, List.set_cons_succ]
    refine wpAnyE_take (i := 8) (v := ?_) rfl (by decide +kernel) (by decide) (by decide +kernel) (by decide +kernel) (by decide +kernel) (fun _ _ _ h => h) (Or.inl ⟨by rfl, ?_⟩) hSw ?_
    rotate_left
    · intro w hw; go_simp; try with_reducible rfl
    simp only [Act.put, List.getElem_toArray, List.getElem_cons_zero, List.getElem_cons_succ, List.setIfInBounds_toArray, List.set_cons_zero, List.set_cons_succ]
    refine wpAnyE_take (i := 9) (v := ?_) rfl (by decide +kernel) (by decide) (by decide +kernel) (by decide +kernel) (by decide +kernel) (fun _ _ _ h => h) (Or.inl ⟨by rfl, ?_⟩) hSw ?_
    rotate_left
    · intro w hw; have hcell := hw.1; clear hw; go_simp; try with_reducible rfl
    simp only [Act.put, List.getElem_toArray, List.getElem_cons_zero, List.getElem_cons_succ, List.setIfInBounds_toArray, List.set_cons_zero, List.set_cons_succ]
    refine wpAnyE_take (i := 10) (v := ?_) rfl (by decide +kernel) (by decide) (by decide +kernel) (by decide +kernel) (by decide +kernel) (fun _ _ _ h => h) (Or.inl ⟨by rfl, ?_⟩) hSw ?_
    rotate_left
    · intro w hw; go_simp; try with_reducible rfl
    simp only [Act.put, List.getElem_toArray, List.getElem_cons_zero, List.getElem_cons_succ, List.setIfInBounds_toArray, List.set_cons_zero, List.set_cons_succ]
    have hSa : ∀ ob : Obj, (w1.alloc ob).drew.cell? ⟨Wb, 3, none⟩ = some (.slice (some ⟨g0, 0, none⟩) t.wes.length cap0) ∧ (w1.alloc ob).drew.cell? ⟨w.heap.size, 1, none⟩ = some (.int .i64 a) ∧ (w1.alloc ob).drew.cell? ⟨g0, i * 2, none⟩ = some (.pointer (some ⟨q.A, 0, none⟩)) ∧ (w1.alloc ob).drew.cell? ⟨g0, i * 2 + 1, none⟩ = some (.pointer (some ⟨q.Y, 0, none⟩)) := fun ob => by
      have hB : Below w1.heap.size w1 (w1.alloc ob) := (Below.refl _ _).alloc (Nat.le_refl _) ob
      refine ⟨?_, ?_, ?_, ?_⟩
      · show (w1.alloc ob).cell? _ = _; rw [hB.cell (World.block_lt_of_cell? w1 _ c0)]; exact c0
      · show (w1.alloc ob).cell? _ = _; rw [hB.cell (World.block_lt_of_cell? w1 _ o1)]; exact o1
      · show (w1.alloc ob).cell? _ = _; rw [hB.cell (World.block_lt_of_cell? w1 _ e1)]; exact e1
      · show (w1.alloc ob).cell? _ = _; rw [hB.cell (World.block_lt_of_cell? w1 _ e2)]; exact e2
    have HSa := hid hSa
    have HPn := hid (PairAt.new w1 q.A q.Y 92)
    have HBn := hid ((Below.refl w1.heap.size w1).alloc (Nat.le_refl _) (.cells #[.pointer (some ⟨q.A, 0, none⟩), .pointer (some ⟨q.Y, 0, none⟩)] 92))
    clear hSa
    refine wpAnyE_two (i := 11) (j := 14) (by kernel_rfl) rfl rfl (fun K hK => ?_) (fun K hK => ?_)
    · go_simp
      refine (Hpk.out w1.drew).mono ?_
      rintro e w2 ⟨rfl, hw⟩
      have hw2 := hw.symm
      subst hw2
      clear hw
      refine hK.out _ _ (fun _ => hSw) ?_
      clear hK K
      refine wpAnyE_take (i := 12) (v := ?_) rfl (by decide +kernel) (by decide) (by decide +kernel) (by decide +kernel) (by decide +kernel) (fun _ _ _ h => h) (Or.inl ⟨by rfl, ?_⟩) hSw ?_
      rotate_left
      · intro w hw; go_simp; try with_reducible rfl
      simp only [Act.put, List.getElem_toArray, List.getElem_cons_zero, List.getElem_cons_succ, List.setIfInBounds_toArray, List.set_cons_zero, List.set_cons_succ]
      refine wpAnyE_take (i := 13) (v := ?_) rfl (by decide +kernel) (by decide) (by decide +kernel) (by decide +kernel) (by decide +kernel) (fun _ _ _ h => h) (Or.inl ⟨by rfl, ?_⟩) hSw ?_
      rotate_left
      · intro w hw; have hcell := hw.2.2; clear hw; obtain ⟨hcell1, hcell2⟩ := hcell; go_simp; try with_reducible rfl
      simp only [Act.put, List.getElem_toArray, List.getElem_cons_zero, List.getElem_cons_succ, List.setIfInBounds_toArray, List.set_cons_zero, List.set_cons_succ]
      refine wpAnyE_one (i := 14) (by kernel_rfl) rfl (fun K hK => ?_)
      go_simp
      refine hK.out _ _ (fun _ => HSa.out _) ?_
      clear hK K
      refine wpAnyE_one (i := 15) (by kernel_rfl) rfl (fun K hK => ?_)
      go_simp
      refine hK.out _ _ (fun h => absurd rfl h) ?_
      clear hK K hSw
      refine wpAnyE_done (by kernel_rfl) ?_ _
      go_wp2
      go_meet
      exact ⟨rfl, ⟨HPn.out.c0, HPn.out.c1, HPn.out.lt⟩, ⟨HBn.out.os, HBn.out.tape, HBn.out.output, HBn.out.size, HBn.out.block⟩⟩
    · go_simp
      refine hK.out _ _ (fun _ => HSa.out _) ?_
      replace hSw := HSa.out (.cells #[.pointer none, .pointer none] 92)
      clear hK K
      refine wpAnyE_one (i := 11) (by kernel_rfl) rfl (fun K hK => ?_)
      go_simp
      refine (Hpk.out _).mono ?_
      rintro e w2 ⟨rfl, rfl⟩
      refine hK.out _ _ (fun _ => hSw) ?_
      clear hK K
      refine wpAnyE_take (i := 12) (v := ?_) rfl (by decide +kernel) (by decide) (by decide +kernel) (by decide +kernel) (by decide +kernel) (fun _ _ _ h => h) (Or.inl ⟨by rfl, ?_⟩) hSw ?_
      rotate_left
      · intro w hw; go_simp; try with_reducible rfl
      simp only [Act.put, List.getElem_toArray, List.getElem_cons_zero, List.getElem_cons_succ, List.setIfInBounds_toArray, List.set_cons_zero, List.set_cons_succ]
      refine wpAnyE_take (i := 13) (v := ?_) rfl (by decide +kernel) (by decide) (by decide +kernel) (by decide +kernel) (by decide +kernel) (fun _ _ _ h => h) (Or.inl ⟨by rfl, ?_⟩) hSw ?_
      rotate_left
      · intro w hw; have hcell := hw.2.2; clear hw; obtain ⟨hcell1, hcell2⟩ := hcell; go_simp; try with_reducible rfl
      simp only [Act.put, List.getElem_toArray, List.getElem_cons_zero, List.getElem_cons_succ, List.setIfInBounds_toArray, List.set_cons_zero, List.set_cons_succ]
      refine wpAnyE_one (i := 15) (by kernel_rfl) rfl (fun K hK => ?_)
      go_simp
      refine hK.out _ _ (fun h => absurd rfl h) ?_
      clear hK K hSw
      refine wpAnyE_done (by kernel_rfl) ?_ _
      go_wp2
      go_meet
      exact ⟨rfl, ⟨HPn.out.c0, HPn.out.c1, HPn.out.lt⟩, ⟨HBn.out.os, HBn.out.tape, HBn.out.output, HBn.out.size, HBn.out.block⟩⟩
  case rest =>
    obtain ⟨rfl, hP, hBl⟩ := hcut
    have HBa := hid (HB.out.trans (hBl.mono HB.out.size))
    have HP := hid hP
    have hOc := HO.out.below hBl
    have HOc := hid hOc
    have HI1 := hid (HI0.out.below HBa.out .op)
    have hB1 : newTag own w.heap.size .op w.heap.size = .op := newTag_new _ _ _ _ (Nat.le_refl _)
    have hB2 : newTag own w.heap.size .op w1.heap.size = .op := newTag_new _ _ _ _ HB.out.size
    obtain ⟨o0, o1, o2, o3, o4, o5, o6, o7, o8, _⟩ := hOc
    obtain ⟨q0, q1, _⟩ := hP
    have HNx : Hd (Nxt w wc own (newTag own w.heap.size .op)) := hid (Nxt.of_below _ _ HBa.out (newTag_old _ _ _))
    clear hBl HI HB HO c0 e1 e2 Hpk
    generalize newTag own w.heap.size .op = own1 at *
    obtain ⟨bs, cs, hA⟩ := HI1.out.we i q hgi (fun hh => hh)
    have hcq := HI0.out.few.cwe q (List.mem_of_getElem? hgi)
    have hss := Hho.out.s1
    dsimp only at hss
    have hAop1 : w1.heap.size ∉ bs := fun hm => by have := hA.sb _ hm; rw [hB2] at this; cases this
    have hAop2 : w.heap.size ∉ bs := fun hm => by have := hA.sb _ hm; rw [hB1] at this; cases this
    have hYop1 : w1.heap.size ∉ cs := fun hm => by have := hA.sc _ hm; rw [hB2] at this; cases this
    have hYop2 : w.heap.size ∉ cs := fun hm => by have := hA.sc _ hm; rw [hB1] at this; cases this
    have hNwc : N ≤ wc.heap.size := by have := HI1.out.wlo; omega
    have HA := hid hA
    clear hA
    by_cases h15 : kd = 15
    · subst h15
      have G1 := hid (samples_any N q.A bs q.x wc HA.out.wl)
      have hkz : Hd (((toS q.x.kept).size : Int) = q.x.kept.length) := hid (by rw [toS_size])
      obtain ⟨cy, hcy⟩ : ∃ cy, cy = wc.cell? ⟨q.Y, 3, none⟩ := ⟨_, rfl⟩
      have hc3 : wc.cell? ⟨q.Y, 3, none⟩ = some (.string (toS q.x.kept)) := by obtain ⟨_, _, _, _, hW, _, _⟩ := HA.out.rw; exact hW.c.2.2.2.1
      clear hcy cy
      go_wp2_with fail
      refine G1.out.mono ?_
      rintro e w3 ⟨rfl, hw⟩
      have hw3 := hw.symm
      subst hw3
      clear hw
      rw [← hkz.out]
      clear hkz G1
      generalize toS q.x.kept = tk at *
      go_wp2
      go_ret
      exact ⟨rfl, own1, t, HI1.out.few_ (HI0.out.few.mono (by omega)), HNx.out⟩
    by_cases h14 : kd = 14
    · subst h14
      obtain ⟨xs, er, x', hxl, hxok, g1, g2⟩ := draw_gen q.x HA.out.ok n s (by omega) N q.A q.Y q.c
      have G1 := hid (g1 wc bs HA.out.wl)
      have G2 := hid g2
      clear g1 g2
      go_wp2_with fail
      refine G1.out.mono ?_
      rintro e w3 ⟨ao, bs1, rfl, hO0, hao, hW3, hT3⟩
      have hP3 := HP.out.other hT3.fr.size (hT3.fr.block _ HP.out.lt hAop1)
      have hO3 := HOc.out.other hT3.fr.size (hT3.fr.block _ HOc.out.lt hAop2)
      have hR3 := HA.out.rw.other hT3.fr.size (fun b hb => hT3.fr.block b (HA.out.rw.lo b hb).2 (fun hm => HA.out.dj b hm hb))
      have G3 := hid (G2.out w3 cs hR3)
      obtain ⟨r0, r1, _⟩ := hP3
      obtain ⟨x0, x1, x2, x3, x4, x5, x6, x7, x8, _⟩ := hO3
      have HW3 := hid hW3
      have HT3 := hid hT3
      have HO0 := hid hO0
      have Hao := hid hao
      dsimp only at x0 x1 x2 x3 x4 x5 x6 x7 x8
      clear hW3 hT3 hR3 hO0 hao G1 G2 o0 o1 o2 o3 o4 o5 o6 o7 o8 q0 q1
      go_wp2_with fail
      refine G3.out.mono ?_
      rintro e w4 ⟨rfl, cs1, hR4, hT4⟩
      have hF4 : Fr (fun b => b ∈ bs ∨ b ∈ cs) wc w4 := (HT3.out.fr.mono (fun b _ hb => .inl hb)).trans (hT4.fr.mono (fun b _ hb => .inr hb))
      have hex : ∀ b, b < wc.heap.size → (b ∈ bs ∨ b ∈ cs) → own1 b = .we i := by
        rintro b _ (hb | hb)
        · exact HA.out.sb b hb
        · exact HA.out.sc b hb
      have hz3 := HT3.out.fr.size
      have hold : ∀ b, b < wc.heap.size → drawTag own1 wc.heap.size bs1 cs1 i t.lis.length b = own1 b := fun b hb => if_pos hb
      have hsb : ∀ b ∈ bs1, drawTag own1 wc.heap.size bs1 cs1 i t.lis.length b = .we i := fun b hb => by
        by_cases hl : b < wc.heap.size
        · rw [hold b hl]
          rcases HT3.out.grow b hb with hh | hh
          · exact HA.out.sb b hh
          · omega
        · unfold drawTag; rw [if_neg hl, if_pos hb]
      have hsc : ∀ b ∈ cs1, drawTag own1 wc.heap.size bs1 cs1 i t.lis.length b = .we i := fun b hb => by
        by_cases hl : b < wc.heap.size
        · rw [hold b hl]
          rcases hT4.grow b hb with hh | hh
          · exact HA.out.sc b hh
          · omega
        · unfold drawTag
          rw [if_neg hl]
          by_cases hbb : b ∈ bs1
          · rw [if_pos hbb]
          · rw [if_neg hbb, if_pos hb]
      have hdj : ∀ b ∈ bs1, b ∉ cs1 := fun b hb hc => by
        have hl3 := (HW3.out.lo b hb).2
        rcases hT4.grow b hc with hh | hh
        · have hlc := (HA.out.rw.lo b hh).2
          rcases HT3.out.grow b hb with h2 | h2
          · exact HA.out.dj b h2 hh
          · omega
        · omega
      have hW4 := HW3.out.other hT4.fr.size (fun b hb => hT4.fr.block b (HW3.out.lo b hb).2 (fun hm => by
        have hlc := (HA.out.rw.lo b hm).2
        rcases HT3.out.grow b hb with h2 | h2
        · exact HA.out.dj b h2 hm
        · omega))
      have hI4 := (HI1.out.weak (ex' := fun gg => gg = .we i) (fun _ hh => hh.elim)).fr hF4 hex hold
      have hS4 : WeAt w4 N (fun b => drawTag own1 wc.heap.size bs1 cs1 i t.lis.length b = .we i) ⟨q.A, q.Y, x', q.c⟩ := ⟨bs1, cs1, hW4, hR4, hxok, hsb, hsc, hdj⟩
      have hI5 := hI4.set_we (k' := k + 1) (x' := ⟨q.A, q.Y, x', q.c⟩) hgi rfl rfl hS4 (Few.set_we HI0.out.few (by show q.c ≤ _; omega))
      have hgl : ∀ gb, ao = some ⟨gb, 0, none⟩ → gb < w3.heap.size ∧ gb ∉ cs := fun gb hgb => by
        have hh := HO0.out
        rw [hgb] at hh
        exact ⟨hh.lt, fun hm => by have := (HA.out.rw.lo gb hm).2; have := (Hao.out gb hgb).1; omega⟩
      have hO4 : OutAt w4 ao xs := HO0.out.other (fun gb hgb => hT4.fr.block gb (hgl gb hgb).1 (hgl gb hgb).2)
      have TK := hid (took_inv ao xs er N Wb (k + 1) (drawTag own1 wc.heap.size bs1 cs1 i t.lis.length) _ w4 hI5 hO4 (by omega) (fun gb hgb => ⟨by
        have h1 := Hao.out gb hgb
        have h2 := hgl gb hgb
        unfold drawTag
        rw [if_neg (by omega), if_neg h1.2, if_neg (fun hm => by
          rcases hT4.grow gb hm with hh | hh
          · exact h2.2 hh
          · omega)], by have := (Hao.out gb hgb).1; omega⟩) (by show t.lis.length + 4 ≤ _; have := HI0.out.few.lis; omega) (by omega))
      have HN5 := hid (HNx.out.trans (Nxt.of_fr hF4 (fun b hb hh => by rw [hex b hb hh]; exact trivial) hold))
      clear hR4 hT4 hF4 hex hI4 hS4 hI5 hO4 hold hsb hsc hdj hW4 hgl G3 r0 r1 x0 x1 x2 x3 x4 x5 x6 x7 x8 HO0
      go_wp2_with fail
      refine TK.out.mono ?_
      rintro e w5 ⟨rfl, own5, t5, hI6, hN6⟩
      have HI6 := hid hI6
      have HN6 := hid (HN5.out.trans hN6)
      clear hI6 hN6 TK
      go_wp2
      go_ret
      exact ⟨rfl, own5, t5, HI6.out, HN6.out⟩
    · have h13 : kd = 13 := by omega
      subst h13
      go_wp2_with fail
      refine (lend_cap s _ hss).mono ?_
      rintro e w3 ⟨g, cap, rfl, hg, hwr, hcapm, hB3⟩
      have hI3 := HI1.out.below hB3 (.le t.les.length)
      have hP3 := HP.out.other hB3.size (hB3.block _ HP.out.lt)
      have hO3 := HOc.out.below hB3
      have hgt : newTag own1 wc.heap.size (.le t.les.length) g = .le t.les.length := newTag_new _ _ _ _ hg
      have hold3 := newTag_old own1 wc.heap.size (.le t.les.length)
      have HNx3 := hid (HNx.out.trans (Nxt.of_below own1 (newTag own1 wc.heap.size (.le t.les.length)) hB3 hold3))
      have hAl := (HA.out.wl.lo q.A HA.out.wl.mem).2
      have hgA : g ≠ q.A := by omega
      have hgbs : g ∉ bs := fun hm => by have := (HA.out.wl.lo g hm).2; omega
      have hgcs : g ∉ cs := fun hm => by have := (HA.out.rw.lo g hm).2; omega
      have hW3 := HA.out.wl.below hB3
      have hR3 := HA.out.rw.other hB3.size (fun b hb => hB3.block b (HA.out.rw.lo b hb).2)
      have hscap : s.size ≤ cap := by have := hwr.le; rw [List.length_append, bts_len] at this; omega
      have hscI : (s.size : Int) ≤ cap := by omega
      have hz3c := hB3.size
      have AD := hid (wfeed_any N q.A bs q.x (.slice (some ⟨g, 0, none⟩) s.size cap) (bts s) w3.drew hW3.drew HA.out.ok (show Src w3.drew _ _ from (hwr.byt cap).src) (fun ad n c hh _ => by cases hh; exact hgA) (by show N ≤ w3.heap.size; omega))
      have hgl3 : g < w3.heap.size := by
        obtain ⟨uu, hu⟩ := Option.isSome_iff_exists.1 (hwr.room 0 (by have := hwr.le; simp [marks8] at this; omega)).1
        exact World.block_lt_of_cell? w3 _ hu
      have HP3 := hid hP3
      have HO3 := hid hO3
      obtain ⟨x0, x1, x2, x3, x4, x5, x6, x7, x8, _⟩ := hO3
      obtain ⟨y0, y1, _⟩ := hP3
      have HI3 := hid hI3
      have Hwr := hid hwr
      have HR3 := hid hR3
      have hpok := pourW_ok HA.out.ok (bts s)
      dsimp only at x0 x1 x2 x3 x4 x5 x6 x7 x8
      clear hI3 hB3 hwr hW3 hR3 o0 o1 o2 o3 o4 o5 o6 o7 o8 q0 q1 HOc HP
      go_wp2_with fail
      refine wp_region_E (S := fun w' => w'.cell? ⟨w1.heap.size, 0, none⟩ = some (.pointer (some ⟨q.A, 0, none⟩)) ∧ w'.cell? ⟨w.heap.size, 3, none⟩ = some (.string s)) 12 (by kernel_rfl) ⟨y0, x3⟩ (fun hSw => ?_)
      refine wpAnyE_take (i := 0) (v := ?_) rfl (by decide +kernel) (by decide) (by decide +kernel) (by decide +kernel) (by decide +kernel) (fun _ _ _ h => h) (Or.inl ⟨by rfl, ?_⟩) hSw ?_
      rotate_left
      · intro w hw; go_simp; try with_reducible rfl
      simp only [Act.put, List.getElem_toArray, List.getElem_cons_zero, List.getElem_cons_succ, List.setIfInBounds_toArray, List.set_cons_zero, List.set_cons_succ]
      refine wpAnyE_take (i := 1) (v := ?_) rfl (by decide +kernel) (by decide) (by decide +kernel) (by decide +kernel) (by decide +kernel) (fun _ _ _ h => h) (Or.inl ⟨by rfl, ?_⟩) hSw ?_
      rotate_left
      · intro w hw; have hcell := hw.1; clear hw; go_simp; try with_reducible rfl
      simp only [Act.put, List.getElem_toArray, List.getElem_cons_zero, List.getElem_cons_succ, List.setIfInBounds_toArray, List.set_cons_zero, List.set_cons_succ]
      refine wpAnyE_take (i := 2) (v := ?_) rfl (by decide +kernel) (by decide) (by decide +kernel) (by decide +kernel) (by decide +kernel) (fun _ _ _ h => h) (Or.inl ⟨by rfl, ?_⟩) hSw ?_
      rotate_left
      · intro w hw; go_simp; try with_reducible rfl
      simp only [Act.put, List.getElem_toArray, List.getElem_cons_zero, List.getElem_cons_succ, List.setIfInBounds_toArray, List.set_cons_zero, List.set_cons_succ]
      refine wpAnyE_take (i := 3) (v := ?_) rfl (by decide +kernel) (by decide) (by decide +kernel) (by decide +kernel) (by decide +kernel) (fun _ _ _ h => h) (Or.inl ⟨by rfl, ?_⟩) hSw ?_
      rotate_left
      · intro w hw; go_simp; try with_reducible rfl
      simp only [Act.put, List.getElem_toArray, List.getElem_cons_zero, List.getElem_cons_succ, List.setIfInBounds_toArray, List.set_cons_zero, List.set_cons_succ]
      refine wpAnyE_take (i := 4) (v := ?_) rfl (by decide +kernel) (by decide) (by decide +kernel) (by decide +kernel) (by decide +kernel) (fun _ _ _ h => h) (Or.inl ⟨by rfl, ?_⟩) hSw ?_
      rotate_left
      · intro w hw; have hcell := hw.2; clear hw; go_simp; try with_reducible rfl
      simp only [Act.put, List.getElem_toArray, List.getElem_cons_zero, List.getElem_cons_succ, List.setIfInBounds_toArray, List.set_cons_zero, List.set_cons_succ]
      refine wpAnyE_take (i := 5) (v := ?_) rfl (by decide +kernel) (by decide) (by decide +kernel) (by decide +kernel) (by decide +kernel) (fun _ _ _ h => h) (Or.inl ⟨by rfl, ?_⟩) hSw ?_
      rotate_left
      · intro w hw; go_simp; try with_reducible rfl
      simp only [Act.put, List.getElem_toArray, List.getElem_cons_zero, List.getElem_cons_succ, List.setIfInBounds_toArray, List.set_cons_zero, List.set_cons_succ]
      refine wpAnyE_take (i := 6) (v := ?_) rfl (by decide +kernel) (by decide) (by decide +kernel) (by decide +kernel) (by decide +kernel) (fun _ _ _ h => h) (Or.inl ⟨by rfl, ?_⟩) hSw ?_
      rotate_left
      · intro w hw; go_simp; try with_reducible rfl
      simp only [Act.put, List.getElem_toArray, List.getElem_cons_zero, List.getElem_cons_succ, List.setIfInBounds_toArray, List.set_cons_zero, List.set_cons_succ]
      refine wpAnyE_one (i := 7) (by kernel_rfl) rfl (fun K hK => ?_)
      go_simp
      refine AD.out.mono ?_
      rintro e w4 ⟨rfl, bs1, hW4, hT4'⟩
      have hT4 : Turns w3 w4 bs bs1 := hT4'.drew
      have hP4 := HP3.out.other hT4.fr.size (hT4.fr.block _ HP3.out.lt hAop1)
      have hO4 := HO3.out.other hT4.fr.size (hT4.fr.block _ HO3.out.lt hAop2)
      have hSw4 : w4.cell? ⟨w1.heap.size, 0, none⟩ = some (.pointer (some ⟨q.A, 0, none⟩)) ∧ w4.cell? ⟨w.heap.size, 3, none⟩ = some (.string s) := ⟨hP4.c0, hO4.c3⟩
      refine hK.out _ _ (fun _ => hSw4) ?_
      replace hSw := hSw4
      have HW4 := hid hW4
      have HT4 := hid hT4
      have HP4 := hid hP4
      have HO4 := hid hO4
      clear hK K hW4 hT4 hT4' hP4 hO4 AD
      generalize hR : pourW q.x (bts s) = R at *
      have HR := hid hR
      clear hR
      obtain ⟨rn, re, x'⟩ := R
      dsimp only at HW4 hpok
      refine wpAnyE_take (i := 8) (v := ?_) rfl (by decide +kernel) (by decide) (by decide +kernel) (by decide +kernel) (by decide +kernel) (fun _ _ _ h => h) (Or.inl ⟨by rfl, ?_⟩) hSw ?_
      rotate_left
      · intro w hw; go_simp; try with_reducible rfl
      simp only [Act.put, List.getElem_toArray, List.getElem_cons_zero, List.getElem_cons_succ, List.setIfInBounds_toArray, List.set_cons_zero, List.set_cons_succ]
      refine wpAnyE_take (i := 9) (v := ?_) rfl (by decide +kernel) (by decide) (by decide +kernel) (by decide +kernel) (by decide +kernel) (fun _ _ _ h => h) (Or.inl ⟨by rfl, ?_⟩) hSw ?_
      rotate_left
      · intro w hw; go_simp; try with_reducible rfl
      simp only [Act.put, List.getElem_toArray, List.getElem_cons_zero, List.getElem_cons_succ, List.setIfInBounds_toArray, List.set_cons_zero, List.set_cons_succ]
      refine wpAnyE_take (i := 10) (v := ?_) rfl (by decide +kernel) (by decide) (by decide +kernel) (by decide +kernel) (by decide +kernel) (fun _ _ _ h => h) (Or.inl ⟨by rfl, ?_⟩) hSw ?_
      rotate_left
      · intro w hw; go_simp; try with_reducible rfl
      simp only [Act.put, List.getElem_toArray, List.getElem_cons_zero, List.getElem_cons_succ, List.setIfInBounds_toArray, List.set_cons_zero, List.set_cons_succ]
      refine wpAnyE_take (i := 11) (v := ?_) rfl (by decide +kernel) (by decide) (by decide +kernel) (by decide +kernel) (by decide +kernel) (fun _ _ _ h => h) (Or.inl ⟨by rfl, ?_⟩) hSw ?_
      rotate_left
      · intro w hw; go_simp; try with_reducible rfl
      simp only [Act.put, List.getElem_toArray, List.getElem_cons_zero, List.getElem_cons_succ, List.setIfInBounds_toArray, List.set_cons_zero, List.set_cons_succ]
      refine wpAnyE_one (i := 12) (by kernel_rfl) rfl (fun K hK => ?_)
      go_simp
      refine hK.out _ _ (fun h => absurd rfl h) ?_
      clear hK K hSw hSw4
      refine wpAnyE_done (by kernel_rfl) ?_ _
      have z3 := HO4.out.c3
      have z1 := HP4.out.c1
      dsimp only at z3
      clear x0 x1 x2 x3 x4 x5 x6 x7 x8 y0 y1
      go_wp2_with (refine wpList_bytes rfl _ rfl s rfl ?_; intro w5 cap5 hB5 hz5 hb5)
      have hz34 := HT4.out.fr.size
      have hR5 := (HR3.out.other HT4.out.fr.size (fun b hb => HT4.out.fr.block b (by have := (HA.out.rw.lo b hb).2; omega) (fun hm => HA.out.dj b hm hb))).other hB5.size (fun b hb => hB5.block b (by have := (HA.out.rw.lo b hb).2; omega))
      have RA := hid (rwfeed_gen N q.Y cs q.x q.c _ (bts s) w5 hR5 HA.out.ok hb5.out (bts_B s) (fun ad n c hh _ => by cases hh; exact fun hm => by have hm2 : w4.heap.size < wc.heap.size := (HA.out.rw.lo _ hm).2; omega) (by omega) (by omega))
      rw [HR.out] at RA
      dsimp only at RA
      refine RA.out.mono ?_
      rintro e w6 ⟨rfl, cs1, hR6, hT6⟩
      have hO6 := (HO4.out.below hB5).other hT6.fr.size (hT6.fr.block _ (HO4.out.below hB5).lt hYop2)
      have v3 := hO6.c3
      dsimp only at v3
      have hF46 : Fr (fun b => b ∈ cs) w4 w6 := (Fr.of_below hB5).trans hT6.fr
      have hF6 : Fr (fun b => b ∈ bs ∨ b ∈ cs) w3 w6 := (HT4.out.fr.mono (fun b _ hb => .inl hb)).trans (hF46.mono (fun b _ hb => .inr hb))
      have hex3 : ∀ b, b < w3.heap.size → (b ∈ bs ∨ b ∈ cs) → newTag own1 wc.heap.size (.le t.les.length) b = .we i := by
        rintro b _ (hb | hb)
        · rw [hold3 b (HA.out.wl.lo b hb).2]; exact HA.out.sb b hb
        · rw [hold3 b (HA.out.rw.lo b hb).2]; exact HA.out.sc b hb
      have hold6 := newTag_old (newTag own1 wc.heap.size (.le t.les.length)) w3.heap.size (.we i)
      have hI6 := (HI3.out.weak (ex' := fun gg => gg = .we i) (fun _ hh => hh.elim)).fr hF6 hex3 hold6
      have hsb6 : ∀ b ∈ bs1, newTag (newTag own1 wc.heap.size (.le t.les.length)) w3.heap.size (.we i) b = .we i := fun b hb => by
        by_cases hbl : b < w3.heap.size
        · rw [hold6 b hbl]
          rcases HT4.out.grow b hb with hh | hh
          · exact hex3 b hbl (.inl hh)
          · exact absurd hbl (by omega)
        · exact newTag_new _ _ _ _ (by omega)
      have hsc6 : ∀ b ∈ cs1, newTag (newTag own1 wc.heap.size (.le t.les.length)) w3.heap.size (.we i) b = .we i := fun b hb => by
        by_cases hbl : b < w3.heap.size
        · rw [hold6 b hbl]
          rcases hT6.grow b hb with hh | hh
          · exact hex3 b hbl (.inr hh)
          · exact absurd hbl (by omega)
        · exact newTag_new _ _ _ _ (by omega)
      have hnc : ∀ b ∈ bs1, b ∉ cs := fun b hb hc => by
        have hlc := (HA.out.rw.lo b hc).2
        rcases HT4.out.grow b hb with h2 | h2
        · exact HA.out.dj b h2 hc
        · omega
      have hdj6 : ∀ b ∈ bs1, b ∉ cs1 := fun b hb hc => by
        have hl4 := (HW4.out.lo b hb).2
        rcases hT6.grow b hc with hh | hh
        · exact hnc b hb hh
        · omega
      have hW6 := HW4.out.other hF46.size (fun b hb => hF46.block b (HW4.out.lo b hb).2 (hnc b hb))
      have hS6 : WeAt w6 N (fun b => newTag (newTag own1 wc.heap.size (.le t.les.length)) w3.heap.size (.we i) b = .we i) ⟨q.A, q.Y, x', q.c + 200⟩ := ⟨bs1, cs1, hW6, hR6, hpok, hsb6, hsc6, hdj6⟩
      have hI7 := hI6.set_we (k' := k + 1) (x' := ⟨q.A, q.Y, x', q.c + 200⟩) hgi rfl rfl hS6 (Few.set_we HI0.out.few (by show q.c + 200 ≤ _; omega))
      have hwr6 : Wr w6 g (bts s ++ marks8 8) cap := Hwr.out.other (hF6.block g hgl3 (by rintro (hh | hh); exact hgbs hh; exact hgcs hh))
      have hgt6 : newTag (newTag own1 wc.heap.size (.le t.les.length)) w3.heap.size (.we i) g = .le t.les.length := by rw [hold6 g hgl3]; exact hgt
      have WH := hid (whole_inv s g cap N Wb (k + 1) _ _ w6 hI7 hwr6 hcapm hgt6 (by omega) hss (by show t.les.length + 1 ≤ k + 1; have := HI0.out.few.les; omega) (by omega))
      have HN6 := hid (HNx3.out.trans (Nxt.of_fr hF6 (fun b hb hh => by rw [hex3 b hb hh]; exact trivial) hold6))
      clear hR6 hT6 hO6 hF46 hF6 hex3 hold6 hI6 hsb6 hsc6 hnc hdj6 hW6 hS6 hI7 hwr6 hgt6 hR5 hb5 hB5 RA z3 z1 HI3 HP3 HO3 Hwr HNx3 HW4 HT4 HP4 HO4 HR3
      go_wp2_with fail
      refine WH.out.mono ?_
      rintro e w7 ⟨rfl, own7, v7, hI8, hN8⟩
      have HI8 := hid hI8
      have HN8 := hid (HN6.out.trans hN8)
      clear hI8 hN8 WH HN6 v3
      go_wp2_with fail
      refine (num_any re _).mono ?_
      rintro e w9 ⟨rfl, hw⟩
      have hw9 := hw.symm
      subst hw9
      clear hw
      go_wp2_with fail
      refine (num_any re _).mono ?_
      rintro e w9 ⟨rfl, hw⟩
      have hw9 := hw.symm
      subst hw9
      clear hw
      go_wp2
      go_ret
      exact ⟨rfl, own7, _, HI8.out, HN8.out⟩
end Go.Proofs.YtbifmhbkmnofiaaGreat
