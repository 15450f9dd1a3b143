import Derived.Test.YtbifmhbkmnofiaaGreatNh
import Derived.Deep.DeepCutAuto
namespace Go.Proofs.YtbifmhbkmnofiaaGreat
open Go.RowKit
set_option linter.unusedVariables false
set_option linter.unusedSimpArgs false
theorem Few.set_sm {k i : Nat} {t : Sta} {x : Sm} (h : Few k t) (hx : x.s.size ≤ 300 * (k + 1)) : Few (k + 1) { t with sms := t.sms.set i x } :=
  ⟨by show (t.sms.set i x).length ≤ _; rw [List.length_set]; have := h.sms; omega, by have := h.sos; show t.sos.length ≤ _; omega, by have := h.gus; show t.gus.length ≤ _; omega, by have := h.wes; show t.wes.length ≤ _; omega, by have := h.lis; show t.lis.length ≤ _; omega, by have := h.les; show t.les.length ≤ _; omega, fun y hy => by
    rcases List.mem_or_eq_of_mem_set hy with hy | rfl
    · have := h.txt y hy; omega
    · exact hx, fun y hy => by have := h.cgu y hy; omega, fun y hy => by have := h.cwe y hy; omega⟩
theorem Few.set_so {k i : Nat} {t : Sta} {x : So} (h : Few k t) : Few (k + 1) { t with sos := t.sos.set i x } :=
  ⟨by have := h.sms; show t.sms.length ≤ _; omega, by show (t.sos.set i x).length ≤ _; rw [List.length_set]; have := h.sos; omega, by have := h.gus; show t.gus.length ≤ _; omega, by have := h.wes; show t.wes.length ≤ _; omega, by have := h.lis; show t.lis.length ≤ _; omega, by have := h.les; show t.les.length ≤ _; omega, fun y hy => by have := h.txt y hy; omega, fun y hy => by have := h.cgu y hy; omega, fun y hy => by have := h.cwe y hy; omega⟩
theorem Few.set_gu {k i : Nat} {t : Sta} {x : Gu} (h : Few k t) (hx : x.c ≤ 200 * (k + 1)) : Few (k + 1) { t with gus := t.gus.set i x } :=
  ⟨by have := h.sms; show t.sms.length ≤ _; omega, by have := h.sos; show t.sos.length ≤ _; omega, by show (t.gus.set i x).length ≤ _; rw [List.length_set]; have := h.gus; omega, by have := h.wes; show t.wes.length ≤ _; omega, by have := h.lis; show t.lis.length ≤ _; omega, by have := h.les; show t.les.length ≤ _; omega, fun y hy => by have := h.txt y hy; omega, fun y hy => by
    rcases List.mem_or_eq_of_mem_set hy with hy | rfl
    · have := h.cgu y hy; omega
    · exact hx, fun y hy => by have := h.cwe y hy; omega⟩
theorem Few.set_we {k i : Nat} {t : Sta} {x : We} (h : Few k t) (hx : x.c ≤ 200 * (k + 1)) : Few (k + 1) { t with wes := t.wes.set i x } :=
  ⟨by have := h.sms; show t.sms.length ≤ _; omega, by have := h.sos; show t.sos.length ≤ _; omega, by have := h.gus; show t.gus.length ≤ _; omega, by show (t.wes.set i x).length ≤ _; rw [List.length_set]; have := h.wes; omega, by have := h.lis; show t.lis.length ≤ _; omega, by have := h.les; show t.les.length ≤ _; omega, fun y hy => by have := h.txt y hy; omega, fun y hy => by have := h.cgu y hy; omega, fun y hy => by
    rcases List.mem_or_eq_of_mem_set hy with hy | rfl
    · have := h.cwe y hy; omega
    · exact hx⟩
set_option maxRecDepth 20000 in
set_option maxHeartbeats 4000000 in
theorem sums_rest (o : OpV) (N Wb k : Nat) (own : Nat → Tag) (t : Sta) (w : World) (h : Inv noTag w N Wb k own t) (ho : o.ok) (hk1 : 4 ≤ o.kind) (hk2 : o.kind ≤ 5) (h0 : 0 < t.sms.length) (hkb : (k + 1) * 96 ≤ 140737488355328) :
    Calls Tryz.prog 11 #[.pointer (some ⟨Wb, 0, none⟩), o.val] w fun e w' => e = .returned (.bool true) ∧ ∃ own' t', Inv noTag w' N Wb (k + 1) own' t' ∧ Nxt w w' own own' := by
  have HB := hid ((Below.refl w.heap.size w).alloc (Nat.le_refl _) o.obj)
  have hI := h.below HB.out .op
  have HO := hid (OpAt.new w o)
  have c0 := (hI.wb (fun hh => hh)).cell 0
  have hrow := hI.r0.own_ (fun hh => hh)
  have hsl := h.few.sms
  obtain ⟨p0, p1⟩ := pickI_bd o.a t.sms.length (by omega)
  obtain ⟨i, hi⟩ : ∃ i : Nat, pickI o.a t.sms.length = (i : Int) := ⟨(pickI o.a t.sms.length).toNat, by omega⟩
  rw [hi] at p0 p1
  have hil : i < t.sms.length := by omega
  obtain ⟨q, hgi⟩ : ∃ q, t.sms[i]? = some q := ⟨_, List.getElem?_eq_getElem hil⟩
  obtain ⟨f1, f2⟩ := flatP_get _ i (q.X, q.Y) (by rw [List.getElem?_map, hgi]; rfl)
  obtain ⟨g0, cap0, hv0⟩ : ∃ g cap, t.v0 = .slice (some ⟨g, 0, none⟩) t.sms.length cap := by
    rcases hrow.2 with ⟨hh, h1⟩ | ⟨g, cap, cur, hv, _, hg, _⟩
    · omega
    · exact ⟨g, cap, hv⟩
  have hob0 : t.v0.ownBlock = some g0 := by rw [hv0]; rfl
  have e1 := World.ownsRow.cells hrow (g := g0) hob0 _ _ f1
  have e2 := World.ownsRow.cells hrow (g := g0) hob0 _ _ f2
  rw [Addr.add_mid, Nat.zero_add] at e1 e2
  unfold pt at e1 e2
  have hv : t.vs[0]? = some t.v0 := rfl
  rw [hv, hv0] at c0
  have Hpk := hid (fun w' => lpick_any o.a t.sms.length w' ho.a0 ho.a1 (by omega) (by omega))
  rw [hi] at Hpk
  obtain ⟨o0, o1, o2, o3, o4, o5, o6, o7, o8, _⟩ := HO.out
  have HI := hid hI
  have HI0 := hid h
  have Hho := hid ho
  have Hz1 := hid (al_size w o.obj)
  clear hI h hv hv0 hrow f1 f2 ho hob0
  generalize how : w.alloc o.obj = w1 at *
  unfold OpV.obj at how
  obtain ⟨kd, a, n, s, t0, u, x, y, z⟩ := o
  dsimp only at *
  have b1 : (kd == 1) = false := bne_of (by omega)
  have b2 : (kd == 2) = false := bne_of (by omega)
  have b3 : (kd == 3) = false := bne_of (by omega)
  unfold OpV.val
  dsimp only
  go_enter Tryz.func11, Tryz.ntmps11
  go_upto_region 16 with fail
  clear how
  go_cut [14] (fun pv wr => pv = .pointer (some ⟨w1.heap.size, 0, none⟩) ∧ PairAt wr w1.heap.size q.X q.Y ∧ Below w1.heap.size w1 wr)
  case first =>
    refine wp_region_E (S := fun w' => w'.cell? ⟨Wb, 0, none⟩ = some (.slice (some ⟨g0, 0, none⟩) t.sms.length cap0) ∧ w'.cell? ⟨w.heap.size, 1, none⟩ = some (.int .i64 a) ∧ w'.cell? ⟨g0, i * 2, none⟩ = some (.pointer (some ⟨q.X, 0, none⟩)) ∧ w'.cell? ⟨g0, i * 2 + 1, none⟩ = some (.pointer (some ⟨q.Y, 0, none⟩))) 15 (by kernel_rfl) ⟨c0, o1, e1, e2⟩ (fun hSw => ?_)
    refine wpAnyE_take (i := 0) (v := ?_) rfl (by decide +kernel) (by decide) (by decide +kernel) (by decide +kernel) (by decide +kernel) (fun _ _ _ h => h) (Or.inl ⟨by rfl, ?_⟩) hSw ?_
    rotate_left
    · intro w hw; go_simp; try with_reducible rfl
    simp only [Act.put, List.getElem_toArray, List.getElem_cons_zero, List.getElem_cons_succ, List.setIfInBounds_toArray, List.set_cons_zero, List.set_cons_succ]
    refine wpAnyE_take (i := 1) (v := ?_) rfl (by decide +kernel) (by decide) (by decide +kernel) (by decide +kernel) (by decide +kernel) (fun _ _ _ h => h) (Or.inl ⟨by rfl, ?_⟩) hSw ?_
    rotate_left
    · intro w hw; go_simp; try with_reducible rfl
    simp only [Act.put, List.getElem_toArray, List.getElem_cons_zero, List.getElem_cons_succ, List.setIfInBounds_toArray, List.set_cons_zero, List.set_cons_succ]
    refine wpAnyE_take (i := 2) (v := ?_) rfl (by decide +kernel) (by decide) (by decide +kernel) (by decide +kernel) (by decide +kernel) (fun _ _ _ h => h) (Or.inl ⟨by rfl, ?_⟩) hSw ?_
    rotate_left
    · intro w hw; go_simp; try with_reducible rfl
    simp only [Act.put, List.getElem_toArray, List.getElem_cons_zero, List.getElem_cons_succ, List.setIfInBounds_toArray, List.set_cons_zero, List.set_cons_succ]
    refine wpAnyE_take (i := 3) (v := ?_) rfl (by decide +kernel) (by decide) (by decide +kernel) (by decide +kernel) (by decide +kernel) (fun _ _ _ h => h) (Or.inl ⟨by rfl, ?_⟩) hSw ?_
    rotate_left
    · intro w hw; have hcell := hw.1; clear hw; go_simp; try with_reducible rfl
    simp only [Act.put, List.getElem_toArray, List.getElem_cons_zero, List.getElem_cons_succ, List.setIfInBounds_toArray, List.set_cons_zero, List.set_cons_succ]
    refine wpAnyE_take (i := 4) (v := ?_) rfl (by decide +kernel) (by decide) (by decide +kernel) (by decide +kernel) (by decide +kernel) (fun _ _ _ h => h) (Or.inl ⟨by rfl, ?_⟩) hSw ?_
    rotate_left
    · intro w hw; go_simp; try with_reducible rfl
    simp only [Act.put, List.getElem_toArray, List.getElem_cons_zero, List.getElem_cons_succ, List.setIfInBounds_toArray, List.set_cons_zero, List.set_cons_succ]
    refine wpAnyE_take (i := 5) (v := ?_) rfl (by decide +kernel) (by decide) (by decide +kernel) (by decide +kernel) (by decide +kernel) (fun _ _ _ h => h) (Or.inl ⟨by rfl, ?_⟩) hSw ?_
    rotate_left
    · intro w hw; have hcell := hw.2.1; clear hw; go_simp; try with_reducible rfl
    simp only [Act.put, List.getElem_toArray, List.getElem_cons_zero, List.getElem_cons_succ, List.setIfInBounds_toArray, List.set_cons_zero, List.set_cons_succ]
    refine wpAnyE_take (i := 6) (v := ?_) rfl (by decide +kernel) (by decide) (by decide +kernel) (by decide +kernel) (by decide +kernel) (fun _ _ _ h => h) (Or.inl ⟨by rfl, ?_⟩) hSw ?_
    rotate_left
    · intro w hw; go_simp; try with_reducible rfl
    simp only [Act.put, List.getElem_toArray, List.getElem_cons_zero, List.getElem_cons_succ, List.setIfInBounds_toArray, List.set_cons_zero, List.set_cons_succ]
    refine wpAnyE_take (i := 7) (v := ?_) rfl (by decide +kernel) (by decide) (by decide +kernel) (by decide +kernel) (by decide +kernel) (fun _ _ _ h => h) (Or.inl ⟨by rfl, ?_⟩) hSw ?_
    rotate_left
    · intro w hw; go_simp; try with_reducible rfl
    simp only [Act.put, List.getElem_toArray, List.getElem_cons_zero, List.getElem_cons_succ, List.setIfInBounds_toArray, List.set_cons_zero, List.set_cons_succ]
    refine wpAnyE_take (i := 8) (v := ?_) rfl (by decide +kernel) (by decide) (by decide +kernel) (by decide +kernel) (by decide +kernel) (fun _ _ _ h => h) (Or.inl ⟨by rfl, ?_⟩) hSw ?_
    rotate_left
    · intro w hw; go_simp; try with_reducible rfl
    simp only [Act.put, List.getElem_toArray, List.getElem_cons_zero, List.getElem_cons_succ, List.setIfInBounds_toArray, List.set_cons_zero, List.set_cons_succ]
    refine wpAnyE_take (i := 9) (v := ?_) rfl (by decide +kernel) (by decide) (by decide +kernel) (by decide +kernel) (by decide +kernel) (fun _ _ _ h => h) (Or.inl ⟨by rfl, ?_⟩) hSw ?_
    rotate_left
    · intro w hw; have hcell := hw.1; clear hw; go_simp; try with_reducible rfl
    simp only [Act.put, List.getElem_toArray, List.getElem_cons_zero, List.getElem_cons_succ, List.setIfInBounds_toArray, List.set_cons_zero, List.set_cons_succ]
    refine wpAnyE_take (i := 10) (v := ?_) rfl (by decide +kernel) (by decide) (by decide +kernel) (by decide +kernel) (by decide +kernel) (fun _ _ _ h => h) (Or.inl ⟨by rfl, ?_⟩) hSw ?_
    rotate_left
    · intro w hw; go_simp; try with_reducible rfl
    simp only [Act.put, List.getElem_toArray, List.getElem_cons_zero, List.getElem_cons_succ, List.setIfInBounds_toArray, List.set_cons_zero, List.set_cons_succ]
    have hSa : ∀ ob : Obj, (w1.alloc ob).drew.cell? ⟨Wb, 0, none⟩ = some (.slice (some ⟨g0, 0, none⟩) t.sms.length cap0) ∧ (w1.alloc ob).drew.cell? ⟨w.heap.size, 1, none⟩ = some (.int .i64 a) ∧ (w1.alloc ob).drew.cell? ⟨g0, i * 2, none⟩ = some (.pointer (some ⟨q.X, 0, none⟩)) ∧ (w1.alloc ob).drew.cell? ⟨g0, i * 2 + 1, none⟩ = some (.pointer (some ⟨q.Y, 0, none⟩)) := fun ob => by
      have hB : Below w1.heap.size w1 (w1.alloc ob) := (Below.refl _ _).alloc (Nat.le_refl _) ob
      refine ⟨?_, ?_, ?_, ?_⟩
      · show (w1.alloc ob).cell? _ = _; rw [hB.cell (World.block_lt_of_cell? w1 _ c0)]; exact c0
      · show (w1.alloc ob).cell? _ = _; rw [hB.cell (World.block_lt_of_cell? w1 _ o1)]; exact o1
      · show (w1.alloc ob).cell? _ = _; rw [hB.cell (World.block_lt_of_cell? w1 _ e1)]; exact e1
      · show (w1.alloc ob).cell? _ = _; rw [hB.cell (World.block_lt_of_cell? w1 _ e2)]; exact e2
    have HSa := hid hSa
    have HPn := hid (PairAt.new w1 q.X q.Y 54)
    have HBn := hid ((Below.refl w1.heap.size w1).alloc (Nat.le_refl _) (.cells #[.pointer (some ⟨q.X, 0, none⟩), .pointer (some ⟨q.Y, 0, none⟩)] 54))
    clear hSa
    refine wpAnyE_two (i := 11) (j := 14) (by kernel_rfl) rfl rfl (fun K hK => ?_) (fun K hK => ?_)
    · go_simp
      refine (Hpk.out w1.drew).mono ?_
      rintro e w2 ⟨rfl, hw⟩
      have hw2 := hw.symm
      subst hw2
      clear hw
      refine hK.out _ _ (fun _ => hSw) ?_
      clear hK K
      refine wpAnyE_take (i := 12) (v := ?_) rfl (by decide +kernel) (by decide) (by decide +kernel) (by decide +kernel) (by decide +kernel) (fun _ _ _ h => h) (Or.inl ⟨by rfl, ?_⟩) hSw ?_
      rotate_left
      · intro w hw; go_simp; try with_reducible rfl
      simp only [Act.put, List.getElem_toArray, List.getElem_cons_zero, List.getElem_cons_succ, List.setIfInBounds_toArray, List.set_cons_zero, List.set_cons_succ]
      refine wpAnyE_take (i := 13) (v := ?_) rfl (by decide +kernel) (by decide) (by decide +kernel) (by decide +kernel) (by decide +kernel) (fun _ _ _ h => h) (Or.inl ⟨by rfl, ?_⟩) hSw ?_
      rotate_left
      · intro w hw; have hcell := hw.2.2; clear hw; obtain ⟨hcell1, hcell2⟩ := hcell; go_simp; try with_reducible rfl
      simp only [Act.put, List.getElem_toArray, List.getElem_cons_zero, List.getElem_cons_succ, List.setIfInBounds_toArray, List.set_cons_zero, List.set_cons_succ]
      refine wpAnyE_one (i := 14) (by kernel_rfl) rfl (fun K hK => ?_)
      go_simp
      refine hK.out _ _ (fun _ => HSa.out _) ?_
      clear hK K
      refine wpAnyE_one (i := 15) (by kernel_rfl) rfl (fun K hK => ?_)
      go_simp
      refine hK.out _ _ (fun h => absurd rfl h) ?_
      clear hK K hSw
      refine wpAnyE_done (by kernel_rfl) ?_ _
      go_wp2
      go_meet
      exact ⟨rfl, ⟨HPn.out.c0, HPn.out.c1, HPn.out.lt⟩, ⟨HBn.out.os, HBn.out.tape, HBn.out.output, HBn.out.size, HBn.out.block⟩⟩
    · go_simp
      refine hK.out _ _ (fun _ => HSa.out _) ?_
      replace hSw := HSa.out (.cells #[.pointer none, .pointer none] 54)
      clear hK K
      refine wpAnyE_one (i := 11) (by kernel_rfl) rfl (fun K hK => ?_)
      go_simp
      refine (Hpk.out _).mono ?_
      rintro e w2 ⟨rfl, rfl⟩
      refine hK.out _ _ (fun _ => hSw) ?_
      clear hK K
      refine wpAnyE_take (i := 12) (v := ?_) rfl (by decide +kernel) (by decide) (by decide +kernel) (by decide +kernel) (by decide +kernel) (fun _ _ _ h => h) (Or.inl ⟨by rfl, ?_⟩) hSw ?_
      rotate_left
      · intro w hw; go_simp; try with_reducible rfl
      simp only [Act.put, List.getElem_toArray, List.getElem_cons_zero, List.getElem_cons_succ, List.setIfInBounds_toArray, List.set_cons_zero, List.set_cons_succ]
      refine wpAnyE_take (i := 13) (v := ?_) rfl (by decide +kernel) (by decide) (by decide +kernel) (by decide +kernel) (by decide +kernel) (fun _ _ _ h => h) (Or.inl ⟨by rfl, ?_⟩) hSw ?_
      rotate_left
      · intro w hw; have hcell := hw.2.2; clear hw; obtain ⟨hcell1, hcell2⟩ := hcell; go_simp; try with_reducible rfl
      simp only [Act.put, List.getElem_toArray, List.getElem_cons_zero, List.getElem_cons_succ, List.setIfInBounds_toArray, List.set_cons_zero, List.set_cons_succ]
      refine wpAnyE_one (i := 15) (by kernel_rfl) rfl (fun K hK => ?_)
      go_simp
      refine hK.out _ _ (fun h => absurd rfl h) ?_
      clear hK K hSw
      refine wpAnyE_done (by kernel_rfl) ?_ _
      go_wp2
      go_meet
      exact ⟨rfl, ⟨HPn.out.c0, HPn.out.c1, HPn.out.lt⟩, ⟨HBn.out.os, HBn.out.tape, HBn.out.output, HBn.out.size, HBn.out.block⟩⟩
  case rest =>
    obtain ⟨rfl, hP, hBl⟩ := hcut
    have HBa := hid (HB.out.trans (hBl.mono HB.out.size))
    have HP := hid hP
    have hOc := HO.out.below hBl
    have HOc := hid hOc
    have HI1 := hid (HI0.out.below HBa.out .op)
    have hB1 : newTag own w.heap.size .op w.heap.size = .op := newTag_new _ _ _ _ (Nat.le_refl _)
    have hB2 : newTag own w.heap.size .op w1.heap.size = .op := newTag_new _ _ _ _ HB.out.size
    obtain ⟨o0, o1, o2, o3, o4, o5, o6, o7, o8, _⟩ := hOc
    obtain ⟨q0, q1, _⟩ := hP
    have HNx : Hd (Nxt w wc own (newTag own w.heap.size .op)) := hid (Nxt.of_below _ _ HBa.out (newTag_old _ _ _))
    clear hBl HI HB HO c0 e1 e2 Hpk
    generalize newTag own w.heap.size .op = own1 at *
    have hA := HI1.out.sm i q hgi (fun hh => hh)
    have htx := HI0.out.few.txt q (List.mem_of_getElem? hgi)
    have hss := Hho.out.s1
    dsimp only at hss
    by_cases h5 : kd = 5
    · subst h5
      have hqy := hA.rf.cell 0
      simp only [List.getElem?_cons_zero] at hqy
      have hfn := feed_n DSN (bts q.s)
      rw [bts_len] at hfn
      have hdn : DSN.n = 0 := rfl
      have T := hid (STot_any (feed DSN (bts q.s)) q.X wc (feed_ok DSN_ok _) hA.st (by omega))
      have HA := hid hA
      clear hA hfn hdn
      go_wp2_with fail
      refine T.out.mono ?_
      rintro e w3 ⟨rfl, hB3⟩
      have hP3 := HP.out.other hB3.size (hB3.block _ HP.out.lt)
      obtain ⟨r0, r1, _⟩ := hP3
      have hqy3 : w3.cell? ⟨q.Y, 0, none⟩ = some (.string q.s) := by rw [hB3.cell (World.block_lt_of_cell? wc _ hqy)]; exact hqy
      have HB3 := hid hB3
      clear hB3 T o0 o1 o2 o3 o4 o5 o6 o7 o8 q0 q1
      go_wp2_with fail
      refine (hash_any q.s _ (by omega)).mono ?_
      rintro e w4 ⟨rfl, hB4⟩
      have hsh : shaI (bts q.s) = sumD (feed DSN (bts q.s)) := rfl
      rw [hsh]
      clear hsh
      have HB4 := hid (HB3.out.trans (hB4.mono HB3.out.size))
      clear hB4 HB3
      generalize toS (sumD (feed DSN (bts q.s))) = tt at *
      go_wp2
      go_ret
      exact ⟨rfl, _, t, (HI1.out.below HB4.out .free).few_ (HI0.out.few.mono (by omega)), HNx.out.trans (Nxt.of_below _ _ HB4.out (newTag_old _ _ _))⟩
    · have h4 : kd = 4 := by omega
      subst h4
      have HA := hid hA
      have hNw : N ≤ wc.heap.size := by have := HI1.out.wlo; omega
      clear hA
      go_wp2_with fail
      refine (lend_cap s _ hss).mono ?_
      rintro e w3 ⟨g, cap, rfl, hg, hwr, hcapm, hB3⟩
      have hI3 := HI1.out.below hB3 (.le t.les.length)
      have hA3 := hI3.sm i q hgi (fun hh => hh)
      have hP3 := HP.out.other hB3.size (hB3.block _ HP.out.lt)
      have hO3 := HOc.out.below hB3
      have hgt : newTag own1 wc.heap.size (.le t.les.length) g = .le t.les.length := newTag_new _ _ _ _ hg
      have hb31 : newTag own1 wc.heap.size (.le t.les.length) w.heap.size = .op := by rw [newTag_old _ _ _ _ HOc.out.lt]; exact hB1
      have hb32 : newTag own1 wc.heap.size (.le t.les.length) w1.heap.size = .op := by rw [newTag_old _ _ _ _ HP.out.lt]; exact hB2
      have HNx3 := hid (HNx.out.trans (Nxt.of_below own1 (newTag own1 wc.heap.size (.le t.les.length)) hB3 (newTag_old _ _ _)))
      generalize newTag own1 wc.heap.size (.le t.les.length) = own3 at *
      have hgX : g ≠ q.X := fun e => by have := hA3.sx; rw [← e, hgt] at this; cases this
      have hscap : s.size ≤ cap := by have := hwr.le; rw [List.length_append, bts_len] at this; omega
      have AD := hid (sadd_gen q.s s q.X (.slice (some ⟨g, 0, none⟩) s.size cap) w3.drew hA3.st (hwr.byt cap) (fun ad n c hh _ => by cases hh; exact hgX) (by omega) (by omega))
      obtain ⟨x0, x1, x2, x3, x4, x5, x6, x7, x8, _⟩ := hO3
      obtain ⟨y0, y1, _⟩ := hP3
      have HI3 := hid hI3
      have HA3 := hid hA3
      have HP3 := hid (HP.out.other hB3.size (hB3.block _ HP.out.lt))
      have HO3 := hid (HOc.out.below hB3)
      have Hwr := hid hwr
      dsimp only at x0 x1 x2 x3 x4 x5 x6 x7 x8
      clear hI3 hA3 hB3 hwr o0 o1 o2 o3 o4 o5 o6 o7 o8 q0 q1 HI1 HOc HP HA HNx
      have hscI : (s.size : Int) ≤ cap := by omega
      have hXop1 : w1.heap.size ≠ q.X := fun e => by have := HA3.out.sx; rw [← e, hb32] at this; cases this
      have hXop2 : w.heap.size ≠ q.X := fun e => by have := HA3.out.sx; rw [← e, hb31] at this; cases this
      have hYop1 : w1.heap.size ≠ q.Y := fun e => by have := HA3.out.sy; rw [← e, hb32] at this; cases this
      have hYop2 : w.heap.size ≠ q.Y := fun e => by have := HA3.out.sy; rw [← e, hb31] at this; cases this
      have hgY : g ≠ q.Y := fun e => by have := HA3.out.sy; rw [← e, hgt] at this; cases this
      have hgl3 : g < w3.heap.size := by
        obtain ⟨uu, hu⟩ := Option.isSome_iff_exists.1 (Hwr.out.room 0 (by have := Hwr.out.le; simp [marks8] at this; omega)).1
        exact World.block_lt_of_cell? w3 _ hu
      go_wp2_with fail
      refine wp_region_E (S := fun w' => w'.cell? ⟨w1.heap.size, 0, none⟩ = some (.pointer (some ⟨q.X, 0, none⟩)) ∧ w'.cell? ⟨w.heap.size, 3, none⟩ = some (.string s)) 8 (by kernel_rfl) ⟨y0, x3⟩ (fun hSw => ?_)
      refine wpAnyE_take (i := 0) (v := ?_) rfl (by decide +kernel) (by decide) (by decide +kernel) (by decide +kernel) (by decide +kernel) (fun _ _ _ h => h) (Or.inl ⟨by rfl, ?_⟩) hSw ?_
      rotate_left
      · intro w hw; go_simp; try with_reducible rfl
      simp only [Act.put, List.getElem_toArray, List.getElem_cons_zero, List.getElem_cons_succ, List.setIfInBounds_toArray, List.set_cons_zero, List.set_cons_succ]
      refine wpAnyE_take (i := 1) (v := ?_) rfl (by decide +kernel) (by decide) (by decide +kernel) (by decide +kernel) (by decide +kernel) (fun _ _ _ h => h) (Or.inl ⟨by rfl, ?_⟩) hSw ?_
      rotate_left
      · intro w hw; have hcell := hw.1; clear hw; go_simp; try with_reducible rfl
      simp only [Act.put, List.getElem_toArray, List.getElem_cons_zero, List.getElem_cons_succ, List.setIfInBounds_toArray, List.set_cons_zero, List.set_cons_succ]
      refine wpAnyE_take (i := 2) (v := ?_) rfl (by decide +kernel) (by decide) (by decide +kernel) (by decide +kernel) (by decide +kernel) (fun _ _ _ h => h) (Or.inl ⟨by rfl, ?_⟩) hSw ?_
      rotate_left
      · intro w hw; go_simp; try with_reducible rfl
      simp only [Act.put, List.getElem_toArray, List.getElem_cons_zero, List.getElem_cons_succ, List.setIfInBounds_toArray, List.set_cons_zero, List.set_cons_succ]
      refine wpAnyE_take (i := 3) (v := ?_) rfl (by decide +kernel) (by decide) (by decide +kernel) (by decide +kernel) (by decide +kernel) (fun _ _ _ h => h) (Or.inl ⟨by rfl, ?_⟩) hSw ?_
      rotate_left
      · intro w hw; go_simp; try with_reducible rfl
      simp only [Act.put, List.getElem_toArray, List.getElem_cons_zero, List.getElem_cons_succ, List.setIfInBounds_toArray, List.set_cons_zero, List.set_cons_succ]
      refine wpAnyE_take (i := 4) (v := ?_) rfl (by decide +kernel) (by decide) (by decide +kernel) (by decide +kernel) (by decide +kernel) (fun _ _ _ h => h) (Or.inl ⟨by rfl, ?_⟩) hSw ?_
      rotate_left
      · intro w hw; have hcell := hw.2; clear hw; go_simp; try with_reducible rfl
      simp only [Act.put, List.getElem_toArray, List.getElem_cons_zero, List.getElem_cons_succ, List.setIfInBounds_toArray, List.set_cons_zero, List.set_cons_succ]
      refine wpAnyE_take (i := 5) (v := ?_) rfl (by decide +kernel) (by decide) (by decide +kernel) (by decide +kernel) (by decide +kernel) (fun _ _ _ h => h) (Or.inl ⟨by rfl, ?_⟩) hSw ?_
      rotate_left
      · intro w hw; go_simp; try with_reducible rfl
      simp only [Act.put, List.getElem_toArray, List.getElem_cons_zero, List.getElem_cons_succ, List.setIfInBounds_toArray, List.set_cons_zero, List.set_cons_succ]
      refine wpAnyE_take (i := 6) (v := ?_) rfl (by decide +kernel) (by decide) (by decide +kernel) (by decide +kernel) (by decide +kernel) (fun _ _ _ h => h) (Or.inl ⟨by rfl, ?_⟩) hSw ?_
      rotate_left
      · intro w hw; go_simp; try with_reducible rfl
      simp only [Act.put, List.getElem_toArray, List.getElem_cons_zero, List.getElem_cons_succ, List.setIfInBounds_toArray, List.set_cons_zero, List.set_cons_succ]
      refine wpAnyE_one (i := 7) (by kernel_rfl) rfl (fun K hK => ?_)
      go_simp
      refine AD.out.mono ?_
      rintro e w4 ⟨rfl, hS4, hE4⟩
      have hE34 : Ex q.X w3 w4 := (Ex.refl q.X w3).drew.trans hE4
      have hP4 := HP3.out.other hE34.size (hE34.block _ HP3.out.lt hXop1)
      have hO4 := HO3.out.other hE34.size (hE34.block _ HO3.out.lt hXop2)
      have hSw4 : w4.cell? ⟨w1.heap.size, 0, none⟩ = some (.pointer (some ⟨q.X, 0, none⟩)) ∧ w4.cell? ⟨w.heap.size, 3, none⟩ = some (.string s) := ⟨hP4.c0, hO4.c3⟩
      refine hK.out _ _ (fun _ => hSw4) ?_
      replace hSw := hSw4
      clear hK K
      refine wpAnyE_one (i := 8) (by kernel_rfl) rfl (fun K hK => ?_)
      go_simp
      refine hK.out _ _ (fun h => absurd rfl h) ?_
      clear hK K hSw hSw4
      refine wpAnyE_done (by kernel_rfl) ?_ _
      have z3 := hO4.c3
      have z1 := hP4.c1
      dsimp only at z3
      have RA := hid (radd_gen q.s s q.Y w4 (HA3.out.rf.other (hE34.block q.Y HA3.out.rf.lt HA3.out.ne.symm)) (by omega) (by omega))
      have HS4 := hid hS4
      have HE34 := hid hE34
      have HO4 := hid hO4
      clear hS4 hE4 hE34 hP4 hO4 AD x0 x1 x2 x3 x4 x5 x6 x7 x8 y0 y1
      go_wp2_with fail
      refine RA.out.mono ?_
      rintro e w5 ⟨rfl, hR5, hE5⟩
      have hO5 := HO4.out.other hE5.size (hE5.block _ HO4.out.lt hYop2)
      have v3 := hO5.c3
      dsimp only at v3
      have hF5 : Fr (fun b => b = q.X ∨ b = q.Y) w3 w5 := ((Fr.of_ex HE34.out).mono (fun b _ hb => .inl hb)).trans ((Fr.of_ex hE5).mono (fun b _ hb => .inr hb))
      have hex5 : ∀ b, b < w3.heap.size → (b = q.X ∨ b = q.Y) → own3 b = .sm i := by
        rintro b _ (rfl | rfl)
        · exact HA3.out.sx
        · exact HA3.out.sy
      have hI5 := (HI3.out.weak (ex' := fun gg => gg = .sm i) (fun _ hh => hh.elim)).fr hF5 hex5 (fun _ _ => rfl)
      have hSm5 : SmAt w5 N (fun b => own3 b = .sm i) ⟨q.X, q.Y, addT q.s s⟩ := ⟨HS4.out.other (hE5.block q.X HS4.out.lt HA3.out.ne), hR5, HA3.out.ne, HA3.out.sx, HA3.out.sy, HA3.out.nx, HA3.out.ny⟩
      have hI6 := hI5.set_sm (k' := k + 1) (x' := ⟨q.X, q.Y, addT q.s s⟩) hgi rfl rfl hSm5 (Few.set_sm HI0.out.few (by have := addT_size q.s s; show (addT q.s s).size ≤ _; omega))
      have hwr5 : Wr w5 g (bts s ++ marks8 8) cap := Hwr.out.other (hF5.block g hgl3 (by rintro (hh | hh); exact hgX hh; exact hgY hh))
      have WH := hid (whole_inv s g cap N Wb (k + 1) own3 _ w5 hI6 hwr5 hcapm hgt (by omega) hss (by show t.les.length + 1 ≤ k + 1; have := HI0.out.few.les; omega) (by omega))
      have HN5 := hid (HNx3.out.trans (Nxt.of_fr hF5 (fun b hb hh => by rw [hex5 b hb hh]; exact trivial) (fun _ _ => rfl)))
      clear hR5 hE5 hO5 hF5 hex5 hI5 hSm5 hI6 hwr5 RA HS4 HE34 HO4 z3 z1 HI3 HA3 HP3 HO3 Hwr HNx3
      go_wp2_with fail
      refine WH.out.mono ?_
      rintro e w6 ⟨rfl, own6, v6, hI7, hN7⟩
      have HI7 := hid hI7
      have HN7 := hid (HN5.out.trans hN7)
      clear hI7 hN7 WH HN5 v3
      generalize addE s = er at *
      go_wp2_with fail
      refine (num_any er _).mono ?_
      rintro e w7 ⟨rfl, hw⟩
      have hw7 := hw.symm
      subst hw7
      clear hw
      go_wp2_with fail
      refine (num_any er _).mono ?_
      rintro e w7 ⟨rfl, hw⟩
      have hw7 := hw.symm
      subst hw7
      clear hw
      go_wp2
      go_ret
      exact ⟨rfl, own6, _, HI7.out, HN7.out⟩
end Go.Proofs.YtbifmhbkmnofiaaGreat
