import Derived.Test.YtbifmhbkmnofiaaGreatNk
import Derived.Deep.DeepCutAuto
namespace Go.Proofs.YtbifmhbkmnofiaaGreat
open Go.RowKit
set_option linter.unusedVariables false
set_option linter.unusedSimpArgs false
set_option maxRecDepth 20000 in
set_option maxHeartbeats 4000000 in
theorem watches_rest (o : OpV) (N Wb k : Nat) (own : Nat → Tag) (t : Sta) (w : World) (h : Inv noTag w N Wb k own t) (ho : o.ok) (hk1 : 10 ≤ o.kind) (hk2 : o.kind ≤ 11) (h0 : 0 < t.gus.length) (hkb : (k + 1) * 96 ≤ 140737488355328) (hcb : (k + 1) * 200 ≤ 35184372088832) :
    Calls Tryz.prog 13 #[.pointer (some ⟨Wb, 0, none⟩), o.val] w fun e w' => e = .returned (.bool true) ∧ ∃ own' t', Inv noTag w' N Wb (k + 1) own' t' ∧ Nxt w w' own own' := by
  have HB := hid ((Below.refl w.heap.size w).alloc (Nat.le_refl _) o.obj)
  have hI := h.below HB.out .op
  have HO := hid (OpAt.new w o)
  have c0 := (hI.wb (fun hh => hh)).cell 2
  have hrow := hI.r2.own_ (fun hh => hh)
  have hsl := h.few.gus
  obtain ⟨p0, p1⟩ := pickI_bd o.a t.gus.length (by omega)
  obtain ⟨i, hi⟩ : ∃ i : Nat, pickI o.a t.gus.length = (i : Int) := ⟨(pickI o.a t.gus.length).toNat, by omega⟩
  rw [hi] at p0 p1
  have hil : i < t.gus.length := by omega
  obtain ⟨q, hgi⟩ : ∃ q, t.gus[i]? = some q := ⟨_, List.getElem?_eq_getElem hil⟩
  obtain ⟨f1, f2⟩ := flatP_get _ i (q.A, q.Y) (by rw [List.getElem?_map, hgi]; rfl)
  obtain ⟨g0, cap0, hv0⟩ : ∃ g cap, t.v2 = .slice (some ⟨g, 0, none⟩) t.gus.length cap := by
    rcases hrow.2 with ⟨hh, h1⟩ | ⟨g, cap, cur, hv, _, hg, _⟩
    · omega
    · exact ⟨g, cap, hv⟩
  have hob0 : t.v2.ownBlock = some g0 := by rw [hv0]; rfl
  have e1 := World.ownsRow.cells hrow (g := g0) hob0 _ _ f1
  have e2 := World.ownsRow.cells hrow (g := g0) hob0 _ _ f2
  rw [Addr.add_mid, Nat.zero_add] at e1 e2
  unfold pt at e1 e2
  have hv : t.vs[2]? = some t.v2 := rfl
  rw [hv, hv0] at c0
  have Hpk := hid (fun w' => lpick_any o.a t.gus.length w' ho.a0 ho.a1 (by omega) (by omega))
  rw [hi] at Hpk
  obtain ⟨o0, o1, o2, o3, o4, o5, o6, o7, o8, _⟩ := HO.out
  have HI := hid hI
  have HI0 := hid h
  have Hho := hid ho
  have Hz1 := hid (al_size w o.obj)
  clear hI h hv hv0 hrow f1 f2 ho hob0
  generalize how : w.alloc o.obj = w1 at *
  unfold OpV.obj at how
  obtain ⟨kd, a, n, s, t0, u, x, y, z⟩ := o
  dsimp only at *
  have b9 : (kd == 9) = false := bne_of (by omega)
  unfold OpV.val
  dsimp only
  go_enter Tryz.func13, Tryz.ntmps13
  go_upto_region 11 with fail
  clear how
  go_cut [9] (fun pv wr => pv = .pointer (some ⟨w1.heap.size, 0, none⟩) ∧ PairAt wr w1.heap.size q.A q.Y ∧ Below w1.heap.size w1 wr)
  case first =>
    refine wp_region_E (S := fun w' => w'.cell? ⟨Wb, 2, none⟩ = some (.slice (some ⟨g0, 0, none⟩) t.gus.length cap0) ∧ w'.cell? ⟨w.heap.size, 1, none⟩ = some (.int .i64 a) ∧ w'.cell? ⟨g0, i * 2, none⟩ = some (.pointer (some ⟨q.A, 0, none⟩)) ∧ w'.cell? ⟨g0, i * 2 + 1, none⟩ = some (.pointer (some ⟨q.Y, 0, none⟩))) 15 (by kernel_rfl) ⟨c0, o1, e1, e2⟩ (fun hSw => ?_)
    refine wpAnyE_take (i := 0) (v := ?_) rfl (by decide +kernel) (by decide) (by decide +kernel) (by decide +kernel) (by decide +kernel) (fun _ _ _ h => h) (Or.inl ⟨by rfl, ?_⟩) hSw ?_
    rotate_left
    · intro w hw; go_simp; try with_reducible rfl
    simp only [Act.put, List.getElem_toArray, List.getElem_cons_zero, List.getElem_cons_succ, List.setIfInBounds_toArray, List.set_cons_zero, List.set_cons_succ]
    refine wpAnyE_take (i := 1) (v := ?_) rfl (by decide +kernel) (by decide) (by decide +kernel) (by decide +kernel) (by decide +kernel) (fun _ _ _ h => h) (Or.inl ⟨by rfl, ?_⟩) hSw ?_
    rotate_left
    · intro w hw; go_simp; try with_reducible rfl
    simp only [Act.put, List.getElem_toArray, List.getElem_cons_zero, List.getElem_cons_succ, List.setIfInBounds_toArray, List.set_cons_zero, List.set_cons_succ]
    refine wpAnyE_take (i := 2) (v := ?_) rfl (by decide +kernel) (by decide) (by decide +kernel) (by decide +kernel) (by decide +kernel) (fun _ _ _ h => h) (Or.inl ⟨by rfl, ?_⟩) hSw ?_
    rotate_left
    · intro w hw; go_simp; try with_reducible rfl
    simp only [Act.put, List.getElem_toArray, List.getElem_cons_zero, List.getElem_cons_succ, List.setIfInBounds_toArray, List.set_cons_zero, List.set_cons_succ]
    refine wpAnyE_take (i := 3) (v := ?_) rfl (by decide +kernel) (by decide) (by decide +kernel) (by decide +kernel) (by decide +kernel) (fun _ _ _ h => h) (Or.inl ⟨by rfl, ?_⟩) hSw ?_
    rotate_left
    · intro w hw; have hcell := hw.1; clear hw; go_simp; try with_reducible rfl
    simp only [Act.put, List.getElem_toArray, List.getElem_cons_zero, List.getElem_cons_succ, List.setIfInBounds_toArray, List.set_cons_zero, List.set_cons_succ]
    refine wpAnyE_take (i := 4) (v := ?_) rfl (by decide +kernel) (by decide) (by decide +kernel) (by decide +kernel) (by decide +kernel) (fun _ _ _ h => h) (Or.inl ⟨by rfl, ?_⟩) hSw ?_
    rotate_left
    · intro w hw; go_simp; try with_reducible rfl
    simp only [Act.put, List.getElem_toArray, List.getElem_cons_zero, List.getElem_cons_succ, List.setIfInBounds_toArray, List.set_cons_zero, List.set_cons_succ]
    refine wpAnyE_take (i := 5) (v := ?_) rfl (by decide +kernel) (by decide) (by decide +kernel) (by decide +kernel) (by decide +kernel) (fun _ _ _ h => h) (Or.inl ⟨by rfl, ?_⟩) hSw ?_
    rotate_left
    · intro w hw; have hcell := hw.2.1; clear hw; go_simp; try with_reducible rfl
    simp only [Act.put, List.getElem_toArray, List.getElem_cons_zero, List.getElem_cons_succ, List.setIfInBounds_toArray, List.set_cons_zero, List.set_cons_succ]
    refine wpAnyE_take (i := 6) (v := ?_) rfl (by decide +kernel) (by decide) (by decide +kernel) (by decide +kernel) (by decide +kernel) (fun _ _ _ h => h) (Or.inl ⟨by rfl, ?_⟩) hSw ?_
    rotate_left
    · intro w hw; go_simp; try with_reducible rfl
    simp only [Act.put, List.getElem_toArray, List.getElem_cons_zero, List.getElem_cons_succ, List.setIfInBounds_toArray, List.set_cons_zero, List.set_cons_succ]
    refine wpAnyE_take (i := 7) (v := ?_) rfl (by decide +kernel) (by decide) (by decide +kernel) (by decide +kernel) (by decide +kernel) (fun _ _ _ h => h) (Or.inl ⟨by rfl, ?_⟩) hSw ?_
    rotate_left
    · intro w hw; go_simp; try with_reducible rfl
    simp only [Act.put, List.getElem_toArray, List.getElem_cons_zero, List.getElem_cons_succ, List.setIfInBounds_toArray, List.set_cons_zero, List.set_cons_succ]
    refine wpAnyE_take (i := 8) (v := ?_) rfl (by decide +kernel) (by decide) (by decide +kernel) (by decide +kernel) (by decide +kernel) (fun _ _ _ h => h) (Or.inl ⟨by rfl, ?_⟩) hSw ?_
    rotate_left
    · intro w hw; go_simp; try with_reducible rfl
    simp only [Act.put, List.getElem_toArray, List.getElem_cons_zero, List.getElem_cons_succ, List.setIfInBounds_toArray, List.set_cons_zero, List.set_cons_succ]
    refine wpAnyE_take (i := 9) (v := ?_) rfl (by decide +kernel) (by decide) (by decide +kernel) (by decide +kernel) (by decide +kernel) (fun _ _ _ h => h) (Or.inl ⟨by rfl, ?_⟩) hSw ?_
    rotate_left
    · intro w hw; have hcell := hw.1; clear hw; go_simp; try with_reducible rfl
    simp only [Act.put, List.getElem_toArray, List.getElem_cons_zero, List.getElem_cons_succ, List.setIfInBounds_toArray, List.set_cons_zero, List.set_cons_succ]
    refine wpAnyE_take (i := 10) (v := ?_) rfl (by decide +kernel) (by decide) (by decide +kernel) (by decide +kernel) (by decide +kernel) (fun _ _ _ h => h) (Or.inl ⟨by rfl, ?_⟩) hSw ?_
    rotate_left
    · intro w hw; go_simp; try with_reducible rfl
    simp only [Act.put, List.getElem_toArray, List.getElem_cons_zero, List.getElem_cons_succ, List.setIfInBounds_toArray, List.set_cons_zero, List.set_cons_succ]
    have hSa : ∀ ob : Obj, (w1.alloc ob).drew.cell? ⟨Wb, 2, none⟩ = some (.slice (some ⟨g0, 0, none⟩) t.gus.length cap0) ∧ (w1.alloc ob).drew.cell? ⟨w.heap.size, 1, none⟩ = some (.int .i64 a) ∧ (w1.alloc ob).drew.cell? ⟨g0, i * 2, none⟩ = some (.pointer (some ⟨q.A, 0, none⟩)) ∧ (w1.alloc ob).drew.cell? ⟨g0, i * 2 + 1, none⟩ = some (.pointer (some ⟨q.Y, 0, none⟩)) := fun ob => by
      have hB : Below w1.heap.size w1 (w1.alloc ob) := (Below.refl _ _).alloc (Nat.le_refl _) ob
      refine ⟨?_, ?_, ?_, ?_⟩
      · show (w1.alloc ob).cell? _ = _; rw [hB.cell (World.block_lt_of_cell? w1 _ c0)]; exact c0
      · show (w1.alloc ob).cell? _ = _; rw [hB.cell (World.block_lt_of_cell? w1 _ o1)]; exact o1
      · show (w1.alloc ob).cell? _ = _; rw [hB.cell (World.block_lt_of_cell? w1 _ e1)]; exact e1
      · show (w1.alloc ob).cell? _ = _; rw [hB.cell (World.block_lt_of_cell? w1 _ e2)]; exact e2
    have HSa := hid hSa
    have HPn := hid (PairAt.new w1 q.A q.Y 82)
    have HBn := hid ((Below.refl w1.heap.size w1).alloc (Nat.le_refl _) (.cells #[.pointer (some ⟨q.A, 0, none⟩), .pointer (some ⟨q.Y, 0, none⟩)] 82))
    clear hSa
    refine wpAnyE_two (i := 11) (j := 14) (by kernel_rfl) rfl rfl (fun K hK => ?_) (fun K hK => ?_)
    · go_simp
      refine (Hpk.out w1.drew).mono ?_
      rintro e w2 ⟨rfl, hw⟩
      have hw2 := hw.symm
      subst hw2
      clear hw
      refine hK.out _ _ (fun _ => hSw) ?_
      clear hK K
      refine wpAnyE_take (i := 12) (v := ?_) rfl (by decide +kernel) (by decide) (by decide +kernel) (by decide +kernel) (by decide +kernel) (fun _ _ _ h => h) (Or.inl ⟨by rfl, ?_⟩) hSw ?_
      rotate_left
      · intro w hw; go_simp; try with_reducible rfl
      simp only [Act.put, List.getElem_toArray, List.getElem_cons_zero, List.getElem_cons_succ, List.setIfInBounds_toArray, List.set_cons_zero, List.set_cons_succ]
      refine wpAnyE_take (i := 13) (v := ?_) rfl (by decide +kernel) (by decide) (by decide +kernel) (by decide +kernel) (by decide +kernel) (fun _ _ _ h => h) (Or.inl ⟨by rfl, ?_⟩) hSw ?_
      rotate_left
      · intro w hw; have hcell := hw.2.2; clear hw; obtain ⟨hcell1, hcell2⟩ := hcell; go_simp; try with_reducible rfl
      simp only [Act.put, List.getElem_toArray, List.getElem_cons_zero, List.getElem_cons_succ, List.setIfInBounds_toArray, List.set_cons_zero, List.set_cons_succ]
      refine wpAnyE_one (i := 14) (by kernel_rfl) rfl (fun K hK => ?_)
      go_simp
      refine hK.out _ _ (fun _ => HSa.out _) ?_
      clear hK K
      refine wpAnyE_one (i := 15) (by kernel_rfl) rfl (fun K hK => ?_)
      go_simp
      refine hK.out _ _ (fun h => absurd rfl h) ?_
      clear hK K hSw
      refine wpAnyE_done (by kernel_rfl) ?_ _
      go_wp2
      go_meet
      exact ⟨rfl, ⟨HPn.out.c0, HPn.out.c1, HPn.out.lt⟩, ⟨HBn.out.os, HBn.out.tape, HBn.out.output, HBn.out.size, HBn.out.block⟩⟩
    · go_simp
      refine hK.out _ _ (fun _ => HSa.out _) ?_
      replace hSw := HSa.out (.cells #[.pointer none, .pointer none] 82)
      clear hK K
      refine wpAnyE_one (i := 11) (by kernel_rfl) rfl (fun K hK => ?_)
      go_simp
      refine (Hpk.out _).mono ?_
      rintro e w2 ⟨rfl, rfl⟩
      refine hK.out _ _ (fun _ => hSw) ?_
      clear hK K
      refine wpAnyE_take (i := 12) (v := ?_) rfl (by decide +kernel) (by decide) (by decide +kernel) (by decide +kernel) (by decide +kernel) (fun _ _ _ h => h) (Or.inl ⟨by rfl, ?_⟩) hSw ?_
      rotate_left
      · intro w hw; go_simp; try with_reducible rfl
      simp only [Act.put, List.getElem_toArray, List.getElem_cons_zero, List.getElem_cons_succ, List.setIfInBounds_toArray, List.set_cons_zero, List.set_cons_succ]
      refine wpAnyE_take (i := 13) (v := ?_) rfl (by decide +kernel) (by decide) (by decide +kernel) (by decide +kernel) (by decide +kernel) (fun _ _ _ h => h) (Or.inl ⟨by rfl, ?_⟩) hSw ?_
      rotate_left
      · intro w hw; have hcell := hw.2.2; clear hw; obtain ⟨hcell1, hcell2⟩ := hcell; go_simp; try with_reducible rfl
      simp only [Act.put, List.getElem_toArray, List.getElem_cons_zero, List.getElem_cons_succ, List.setIfInBounds_toArray, List.set_cons_zero, List.set_cons_succ]
      refine wpAnyE_one (i := 15) (by kernel_rfl) rfl (fun K hK => ?_)
      go_simp
      refine hK.out _ _ (fun h => absurd rfl h) ?_
      clear hK K hSw
      refine wpAnyE_done (by kernel_rfl) ?_ _
      go_wp2
      go_meet
      exact ⟨rfl, ⟨HPn.out.c0, HPn.out.c1, HPn.out.lt⟩, ⟨HBn.out.os, HBn.out.tape, HBn.out.output, HBn.out.size, HBn.out.block⟩⟩
  case rest =>
    obtain ⟨rfl, hP, hBl⟩ := hcut
    have HBa := hid (HB.out.trans (hBl.mono HB.out.size))
    have HP := hid hP
    have hOc := HO.out.below hBl
    have HOc := hid hOc
    have HI1 := hid (HI0.out.below HBa.out .op)
    have hB1 : newTag own w.heap.size .op w.heap.size = .op := newTag_new _ _ _ _ (Nat.le_refl _)
    have hB2 : newTag own w.heap.size .op w1.heap.size = .op := newTag_new _ _ _ _ HB.out.size
    obtain ⟨o0, o1, o2, o3, o4, o5, o6, o7, o8, _⟩ := hOc
    obtain ⟨q0, q1, _⟩ := hP
    have HNx : Hd (Nxt w wc own (newTag own w.heap.size .op)) := hid (Nxt.of_below _ _ HBa.out (newTag_old _ _ _))
    clear hBl HI HB HO c0 e1 e2 Hpk
    generalize newTag own w.heap.size .op = own1 at *
    obtain ⟨bs, rg, hA⟩ := HI1.out.gu i q hgi (fun hh => hh)
    have hcq := HI0.out.few.cgu q (List.mem_of_getElem? hgi)
    have hss := Hho.out.s1
    dsimp only at hss
    have hAop1 : w1.heap.size ≠ q.A := fun e => by have := hA.sa; rw [← e, hB2] at this; cases this
    have hAop2 : w.heap.size ≠ q.A := fun e => by have := hA.sa; rw [← e, hB1] at this; cases this
    have hYop1 : w1.heap.size ∉ bs := fun hm => by have := hA.sb _ hm; rw [hB2] at this; cases this
    have hYop2 : w.heap.size ∉ bs := fun hm => by have := hA.sb _ hm; rw [hB1] at this; cases this
    have hNwc : N ≤ wc.heap.size := by have := HI1.out.wlo; omega
    have HA := hid hA
    clear hA
    by_cases h11 : kd = 11
    · subst h11
      have G1 := hid (greset_any q.g q.A wc HA.out.gd)
      go_wp2_with fail
      refine G1.out.mono ?_
      rintro e w3 ⟨rfl, hF3, hE3⟩
      have hP3 := HP.out.other hE3.size (hE3.block _ HP.out.lt hAop1)
      have hR3 := HA.out.rg.other hE3.size (fun b hb => hE3.block b (HA.out.rg.lo b hb).2 (fun e => HA.out.na (e ▸ hb)))
      have G3 := hid (rgreset_any N q.Y bs rg w3 hR3)
      obtain ⟨r0, r1, _⟩ := hP3
      have HF3 := hid hF3
      have HE3 := hid hE3
      clear hF3 hE3 hR3 G1 o0 o1 o2 o3 o4 o5 o6 o7 o8 q0 q1
      go_wp2_with fail
      refine G3.out.mono ?_
      rintro e w4 ⟨rfl, hR4, hT4⟩
      have hF4 : Fr (fun b => b = q.A ∨ b ∈ bs) wc w4 := ((Fr.of_ex HE3.out).mono (fun b _ hb => .inl hb)).trans (hT4.fr.mono (fun b _ hb => .inr hb))
      have hex : ∀ b, b < wc.heap.size → (b = q.A ∨ b ∈ bs) → own1 b = .gu i := by
        rintro b _ (rfl | hb)
        · exact HA.out.sa
        · exact HA.out.sb b hb
      have hI4 := (HI1.out.weak (ex' := fun gg => gg = .gu i) (fun _ hh => hh.elim)).fr hF4 hex (fun _ _ => rfl)
      have hl := HA.out.gr.ok.l
      have hS4 : GuAt w4 N (fun b => own1 b = .gu i) ⟨q.A, q.Y, ⟨q.g.st, q.g.wi, q.g.sk, W0, false⟩, q.c⟩ := ⟨bs, ⟨rg.st, rg.wi, rg.sk, [], false⟩, WsAt.other HF3.out (hT4.fr.block q.A (GdAt.lt HF3.out) HA.out.na), hR4, ⟨HA.out.gr.st, HA.out.gr.wi, HA.out.gr.sk, rfl, Gd.ok_new hl false, fun _ => Ab.zero _⟩, Nat.zero_le _, HA.out.sb, HA.out.na, HA.out.sa, HA.out.nA⟩
      have HI5 := hid (hI4.set_gu (k' := k + 1) (x' := ⟨q.A, q.Y, ⟨q.g.st, q.g.wi, q.g.sk, W0, false⟩, q.c⟩) hgi rfl rfl hS4 (Few.set_gu HI0.out.few (by show q.c ≤ _; omega)))
      have HN5 := hid (HNx.out.trans (Nxt.of_fr hF4 (fun b hb hh => by rw [hex b hb hh]; exact trivial) (fun _ _ => rfl)))
      clear hR4 hT4 hF4 hex hI4 hS4 hl G3 r0 r1
      go_wp2
      go_ret
      exact ⟨rfl, own1, _, HI5.out, HN5.out⟩
    · have h10 : kd = 10 := by omega
      subst h10
      go_wp2_with fail
      refine (lend_cap s _ hss).mono ?_
      rintro e w3 ⟨g, cap, rfl, hg, hwr, hcapm, hB3⟩
      have hI3 := HI1.out.below hB3 (.le t.les.length)
      have hP3 := HP.out.other hB3.size (hB3.block _ HP.out.lt)
      have hO3 := HOc.out.below hB3
      have hgt : newTag own1 wc.heap.size (.le t.les.length) g = .le t.les.length := newTag_new _ _ _ _ hg
      have hold3 := newTag_old own1 wc.heap.size (.le t.les.length)
      have HNx3 := hid (HNx.out.trans (Nxt.of_below own1 (newTag own1 wc.heap.size (.le t.les.length)) hB3 hold3))
      have hAl := HA.out.gd.lt
      have hgA : g ≠ q.A := by omega
      have hgbs : g ∉ bs := fun hm => by have := (HA.out.rg.lo g hm).2; omega
      have hGd3 : GdAt w3 q.A q.g := WsAt.other HA.out.gd (hB3.block q.A hAl)
      have hRg3 := HA.out.rg.below hB3
      have hscap : s.size ≤ cap := by have := hwr.le; rw [List.length_append, bts_len] at this; omega
      have hscI : (s.size : Int) ≤ cap := by omega
      have AD := hid (gfeed_gen q.g q.A (.slice (some ⟨g, 0, none⟩) s.size cap) (bts s) w3.drew hGd3 HA.out.gr.ok (hwr.byt cap) (fun ad n c hh _ => by cases hh; exact hgA))
      have hgl3 : g < w3.heap.size := by
        obtain ⟨uu, hu⟩ := Option.isSome_iff_exists.1 (hwr.room 0 (by have := hwr.le; simp [marks8] at this; omega)).1
        exact World.block_lt_of_cell? w3 _ hu
      have HP3 := hid hP3
      have HO3 := hid hO3
      obtain ⟨x0, x1, x2, x3, x4, x5, x6, x7, x8, _⟩ := hO3
      obtain ⟨y0, y1, _⟩ := hP3
      have HI3 := hid hI3
      have Hwr := hid hwr
      have HR3 := hid hRg3
      have HB3 := hid hB3
      have hfok := feedT_ok HA.out.gr.ok (bts s)
      dsimp only at x0 x1 x2 x3 x4 x5 x6 x7 x8
      clear hI3 hB3 hwr hGd3 hRg3 o0 o1 o2 o3 o4 o5 o6 o7 o8 q0 q1 HOc HP
      go_wp2_with fail
      refine wp_region_E (S := fun w' => w'.cell? ⟨w1.heap.size, 0, none⟩ = some (.pointer (some ⟨q.A, 0, none⟩)) ∧ w'.cell? ⟨w.heap.size, 3, none⟩ = some (.string s)) 12 (by kernel_rfl) ⟨y0, x3⟩ (fun hSw => ?_)
      refine wpAnyE_take (i := 0) (v := ?_) rfl (by decide +kernel) (by decide) (by decide +kernel) (by decide +kernel) (by decide +kernel) (fun _ _ _ h => h) (Or.inl ⟨by rfl, ?_⟩) hSw ?_
      rotate_left
      · intro w hw; go_simp; try with_reducible rfl
      simp only [Act.put, List.getElem_toArray, List.getElem_cons_zero, List.getElem_cons_succ, List.setIfInBounds_toArray, List.set_cons_zero, List.set_cons_succ]
      refine wpAnyE_take (i := 1) (v := ?_) rfl (by decide +kernel) (by decide) (by decide +kernel) (by decide +kernel) (by decide +kernel) (fun _ _ _ h => h) (Or.inl ⟨by rfl, ?_⟩) hSw ?_
      rotate_left
      · intro w hw; have hcell := hw.1; clear hw; go_simp; try with_reducible rfl
      simp only [Act.put, List.getElem_toArray, List.getElem_cons_zero, List.getElem_cons_succ, List.setIfInBounds_toArray, List.set_cons_zero, List.set_cons_succ]
      refine wpAnyE_take (i := 2) (v := ?_) rfl (by decide +kernel) (by decide) (by decide +kernel) (by decide +kernel) (by decide +kernel) (fun _ _ _ h => h) (Or.inl ⟨by rfl, ?_⟩) hSw ?_
      rotate_left
      · intro w hw; go_simp; try with_reducible rfl
      simp only [Act.put, List.getElem_toArray, List.getElem_cons_zero, List.getElem_cons_succ, List.setIfInBounds_toArray, List.set_cons_zero, List.set_cons_succ]
      refine wpAnyE_take (i := 3) (v := ?_) rfl (by decide +kernel) (by decide) (by decide +kernel) (by decide +kernel) (by decide +kernel) (fun _ _ _ h => h) (Or.inl ⟨by rfl, ?_⟩) hSw ?_
      rotate_left
      · intro w hw; go_simp; try with_reducible rfl
      simp only [Act.put, List.getElem_toArray, List.getElem_cons_zero, List.getElem_cons_succ, List.setIfInBounds_toArray, List.set_cons_zero, List.set_cons_succ]
      refine wpAnyE_take (i := 4) (v := ?_) rfl (by decide +kernel) (by decide) (by decide +kernel) (by decide +kernel) (by decide +kernel) (fun _ _ _ h => h) (Or.inl ⟨by rfl, ?_⟩) hSw ?_
      rotate_left
      · intro w hw; have hcell := hw.2; clear hw; go_simp; try with_reducible rfl
      simp only [Act.put, List.getElem_toArray, List.getElem_cons_zero, List.getElem_cons_succ, List.setIfInBounds_toArray, List.set_cons_zero, List.set_cons_succ]
      refine wpAnyE_take (i := 5) (v := ?_) rfl (by decide +kernel) (by decide) (by decide +kernel) (by decide +kernel) (by decide +kernel) (fun _ _ _ h => h) (Or.inl ⟨by rfl, ?_⟩) hSw ?_
      rotate_left
      · intro w hw; go_simp; try with_reducible rfl
      simp only [Act.put, List.getElem_toArray, List.getElem_cons_zero, List.getElem_cons_succ, List.setIfInBounds_toArray, List.set_cons_zero, List.set_cons_succ]
      refine wpAnyE_take (i := 6) (v := ?_) rfl (by decide +kernel) (by decide) (by decide +kernel) (by decide +kernel) (by decide +kernel) (fun _ _ _ h => h) (Or.inl ⟨by rfl, ?_⟩) hSw ?_
      rotate_left
      · intro w hw; go_simp; try with_reducible rfl
      simp only [Act.put, List.getElem_toArray, List.getElem_cons_zero, List.getElem_cons_succ, List.setIfInBounds_toArray, List.set_cons_zero, List.set_cons_succ]
      refine wpAnyE_one (i := 7) (by kernel_rfl) rfl (fun K hK => ?_)
      go_simp
      refine AD.out.mono ?_
      rintro e w4 ⟨rfl, hG4, hE4⟩
      have hE34 : Ex q.A w3 w4 := (Ex.refl q.A w3).drew.trans hE4
      have hP4 := HP3.out.other hE34.size (hE34.block _ HP3.out.lt hAop1)
      have hO4 := HO3.out.other hE34.size (hE34.block _ HO3.out.lt hAop2)
      have hSw4 : w4.cell? ⟨w1.heap.size, 0, none⟩ = some (.pointer (some ⟨q.A, 0, none⟩)) ∧ w4.cell? ⟨w.heap.size, 3, none⟩ = some (.string s) := ⟨hP4.c0, hO4.c3⟩
      refine hK.out _ _ (fun _ => hSw4) ?_
      replace hSw := hSw4
      have HG4 := hid hG4
      have HE34 := hid hE34
      have HP4 := hid hP4
      have HO4 := hid hO4
      clear hK K hG4 hE4 hE34 hP4 hO4 AD
      have Hft : Hd (feedT q.g (bts s) = feedT q.g (bts s)) := hid rfl
      generalize hR : feedT q.g (bts s) = R at *
      have HR := hid hR
      clear hR Hft
      obtain ⟨rn, re, g'⟩ := R
      dsimp only at HG4 hfok
      refine wpAnyE_take (i := 8) (v := ?_) rfl (by decide +kernel) (by decide) (by decide +kernel) (by decide +kernel) (by decide +kernel) (fun _ _ _ h => h) (Or.inl ⟨by rfl, ?_⟩) hSw ?_
      rotate_left
      · intro w hw; go_simp; try with_reducible rfl
      simp only [Act.put, List.getElem_toArray, List.getElem_cons_zero, List.getElem_cons_succ, List.setIfInBounds_toArray, List.set_cons_zero, List.set_cons_succ]
      refine wpAnyE_take (i := 9) (v := ?_) rfl (by decide +kernel) (by decide) (by decide +kernel) (by decide +kernel) (by decide +kernel) (fun _ _ _ h => h) (Or.inl ⟨by rfl, ?_⟩) hSw ?_
      rotate_left
      · intro w hw; go_simp; try with_reducible rfl
      simp only [Act.put, List.getElem_toArray, List.getElem_cons_zero, List.getElem_cons_succ, List.setIfInBounds_toArray, List.set_cons_zero, List.set_cons_succ]
      refine wpAnyE_take (i := 10) (v := ?_) rfl (by decide +kernel) (by decide) (by decide +kernel) (by decide +kernel) (by decide +kernel) (fun _ _ _ h => h) (Or.inl ⟨by rfl, ?_⟩) hSw ?_
      rotate_left
      · intro w hw; go_simp; try with_reducible rfl
      simp only [Act.put, List.getElem_toArray, List.getElem_cons_zero, List.getElem_cons_succ, List.setIfInBounds_toArray, List.set_cons_zero, List.set_cons_succ]
      refine wpAnyE_take (i := 11) (v := ?_) rfl (by decide +kernel) (by decide) (by decide +kernel) (by decide +kernel) (by decide +kernel) (fun _ _ _ h => h) (Or.inl ⟨by rfl, ?_⟩) hSw ?_
      rotate_left
      · intro w hw; go_simp; try with_reducible rfl
      simp only [Act.put, List.getElem_toArray, List.getElem_cons_zero, List.getElem_cons_succ, List.setIfInBounds_toArray, List.set_cons_zero, List.set_cons_succ]
      refine wpAnyE_one (i := 12) (by kernel_rfl) rfl (fun K hK => ?_)
      go_simp
      refine hK.out _ _ (fun h => absurd rfl h) ?_
      clear hK K hSw hSw4
      refine wpAnyE_done (by kernel_rfl) ?_ _
      have z3 := HO4.out.c3
      have z1 := HP4.out.c1
      dsimp only at z3
      clear x0 x1 x2 x3 x4 x5 x6 x7 x8 y0 y1
      go_wp2_with (refine wpList_bytes rfl _ rfl s rfl ?_; intro w5 cap5 hB5 hz5 hb5)
      have hR5 := (HR3.out.other HE34.out.size (fun b hb => HE34.out.block b (HR3.out.lo b hb).2 (fun e => HA.out.na (e ▸ hb)))).below hB5
      have hz34 := HE34.out.size
      have hz3c := HB3.out.size
      have RA := hid (rgfeed_gen N q.Y bs q.g rg _ (bts s) w5 hR5 HA.out.gr hb5.out (fun ad n c hh _ => by cases hh; exact fun hm => by have hm2 : w4.heap.size < wc.heap.size := (HA.out.rg.lo _ hm).2; omega) (by have := HA.out.cs; omega) (by omega))
      rw [HR.out] at RA
      dsimp only at RA
      refine RA.out.mono ?_
      rintro e w6 ⟨rfl, bs', rg', hR6, hGR6, hc6, hT6⟩
      have hO6 := (HO4.out.below hB5).other hT6.fr.size (hT6.fr.block _ (HO4.out.below hB5).lt hYop2)
      have v3 := hO6.c3
      dsimp only at v3
      have hF46 : Fr (fun b => b ∈ bs) w4 w6 := (Fr.of_below hB5).trans hT6.fr
      have hF6 : Fr (fun b => b = q.A ∨ b ∈ bs) w3 w6 := ((Fr.of_ex HE34.out).mono (fun b _ hb => .inl hb)).trans (hF46.mono (fun b _ hb => .inr hb))
      have hex3 : ∀ b, b < w3.heap.size → (b = q.A ∨ b ∈ bs) → newTag own1 wc.heap.size (.le t.les.length) b = .gu i := by
        rintro b _ (rfl | hb)
        · rw [hold3 _ hAl]; exact HA.out.sa
        · rw [hold3 b (HA.out.rg.lo b hb).2]; exact HA.out.sb b hb
      have hold6 := newTag_old (newTag own1 wc.heap.size (.le t.les.length)) w3.heap.size (.gu i)
      have hI6 := (HI3.out.weak (ex' := fun gg => gg = .gu i) (fun _ hh => hh.elim)).fr hF6 hex3 hold6
      have hsb6 : ∀ b ∈ bs', newTag (newTag own1 wc.heap.size (.le t.les.length)) w3.heap.size (.gu i) b = .gu i := fun b hb => by
        by_cases hbl : b < w3.heap.size
        · rw [hold6 b hbl]
          rcases hT6.grow b hb with hh | hh
          · exact hex3 b hbl (.inr hh)
          · exact absurd hbl (by omega)
        · exact newTag_new _ _ _ _ (by omega)
      have hAl4 := GdAt.lt HG4.out
      have hS6 : GuAt w6 N (fun b => newTag (newTag own1 wc.heap.size (.le t.les.length)) w3.heap.size (.gu i) b = .gu i) ⟨q.A, q.Y, g', q.c + 200⟩ :=
        ⟨bs', rg', WsAt.other HG4.out (hF46.block q.A hAl4 HA.out.na), hR6, hGR6, by show rg'.cs.length ≤ q.c + 200; have := HA.out.cs; omega, hsb6, fun hm => by
          rcases hT6.grow _ hm with hh | hh
          · exact HA.out.na hh
          · have hh2 : w5.heap.size ≤ q.A := hh
            omega, by rw [hold6 q.A (by omega)]; exact hex3 q.A (by omega) (.inl rfl), HA.out.nA⟩
      have hI7 := hI6.set_gu (k' := k + 1) (x' := ⟨q.A, q.Y, g', q.c + 200⟩) hgi rfl rfl hS6 (Few.set_gu HI0.out.few (by show q.c + 200 ≤ _; omega))
      have hwr6 : Wr w6 g (bts s ++ marks8 8) cap := Hwr.out.other (hF6.block g hgl3 (by rintro (hh | hh); exact hgA hh; exact hgbs hh))
      have hgt6 : newTag (newTag own1 wc.heap.size (.le t.les.length)) w3.heap.size (.gu i) g = .le t.les.length := by rw [hold6 g hgl3]; exact hgt
      have WH := hid (whole_inv s g cap N Wb (k + 1) _ _ w6 hI7 hwr6 hcapm hgt6 (by omega) hss (by show t.les.length + 1 ≤ k + 1; have := HI0.out.few.les; omega) (by omega))
      have HN6 := hid (HNx3.out.trans (Nxt.of_fr hF6 (fun b hb hh => by rw [hex3 b hb hh]; exact trivial) hold6))
      clear hR6 hGR6 hc6 hT6 hO6 hF46 hF6 hex3 hold6 hI6 hsb6 hS6 hI7 hwr6 hgt6 hR5 hb5 hB5 RA z3 z1 HI3 HP3 HO3 Hwr HNx3 HG4 HE34 HP4 HO4 HR3 HB3
      go_wp2_with fail
      refine WH.out.mono ?_
      rintro e w7 ⟨rfl, own7, v7, hI8, hN8⟩
      have HI8 := hid hI8
      have HN8 := hid (HN6.out.trans hN8)
      clear hI8 hN8 WH HN6 v3
      go_wp2_with fail
      refine (num_any re _).mono ?_
      rintro e w9 ⟨rfl, hw⟩
      have hw9 := hw.symm
      subst hw9
      clear hw
      go_wp2_with fail
      refine (num_any re _).mono ?_
      rintro e w9 ⟨rfl, hw⟩
      have hw9 := hw.symm
      subst hw9
      clear hw
      go_wp2
      go_ret
      exact ⟨rfl, own7, _, HI8.out, HN8.out⟩
end Go.Proofs.YtbifmhbkmnofiaaGreat
