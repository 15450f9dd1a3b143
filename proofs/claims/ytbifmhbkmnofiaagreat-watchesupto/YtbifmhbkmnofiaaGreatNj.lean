import Derived.Test.YtbifmhbkmnofiaaGreatNi
import Derived.Deep.DeepCutAuto
namespace Go.Proofs.YtbifmhbkmnofiaaGreat
open Go.RowKit
set_option linter.unusedVariables false
set_option linter.unusedSimpArgs false
theorem new_gen (k : Int) (e n m : ByteArray) (he : e.size ≤ 9223372036854775807) (hn : n.size ≤ 9223372036854775807) (hm : m.size ≤ 9223372036854775807) :
    (∃ f, (∀ w, Calls Tryz.prog 29 #[.int .i64 k, .string e, .string n, .string m] w fun en w' => ∃ A B, en = .returned (.tuple #[.pointer (some ⟨A, 0, none⟩), .int .i64 0]) ∧ w.heap.size ≤ A ∧ w.heap.size ≤ B ∧ FtAt w' A B f ∧ Below w.heap.size w w') ∧ (∀ w, Calls Tryz.prog 30 #[.int .i64 k, .string e, .string n, .string m] w fun en w' => ∃ Y, en = .returned (.tuple #[.pointer (some ⟨Y, 0, none⟩), .int .i64 0]) ∧ w.heap.size ≤ Y ∧ RfAt w' Y f ∧ Below w.heap.size w w')) ∨
    (∃ er : Int, (∀ w, Calls Tryz.prog 29 #[.int .i64 k, .string e, .string n, .string m] w fun en w' => en = .returned (.tuple #[.pointer none, .int .i64 er]) ∧ Below w.heap.size w w') ∧ (∀ w, Calls Tryz.prog 30 #[.int .i64 k, .string e, .string n, .string m] w fun en w' => en = .returned (.tuple #[.pointer none, .int .i64 er]) ∧ Below w.heap.size w w')) := by
  by_cases hk : k = 1 ∨ k = 2
  · by_cases ha : may e = true ∧ n.size ≤ 64 ∧ m.size ≤ 64
    · exact .inl ⟨_, fun w => new_any k e n m w hk ha.1 ha.2.1 ha.2.2, fun w => rnew_any k e n m w hk ha.1 ha.2.1 ha.2.2⟩
    · have hb : may e = false ∨ 64 < n.size ∨ 64 < m.size := by
        cases hme : may e with
        | false => exact .inl rfl
        | true =>
          refine .inr ?_
          by_cases h1 : n.size ≤ 64
          · exact .inr (by have : ¬ m.size ≤ 64 := fun h2 => ha ⟨hme, h1, h2⟩; omega)
          · exact .inl (by omega)
      refine .inr ⟨2, fun w => new_arg k e n m w hk hb he hn hm, fun w => (rnew_arg k e n m w hk hb he hn hm).mono ?_⟩
      rintro en w' ⟨rfl, rfl⟩
      exact ⟨rfl, Below.refl _ _⟩
  · refine .inr ⟨1, fun w => (new_kind k e n m w (fun h => hk (.inl h)) (fun h => hk (.inr h))).mono ?_, fun w => (rnew_kind k e n m w (fun h => hk (.inl h)) (fun h => hk (.inr h))).mono ?_⟩
    · rintro en w' ⟨rfl, rfl⟩
      exact ⟨rfl, Below.refl _ _⟩
    · rintro en w' ⟨rfl, rfl⟩
      exact ⟨rfl, Below.refl _ _⟩
theorem reseed_gen (f : Fnt) (e x : ByteArray) (he : e.size ≤ 9223372036854775807) (hx : x.size ≤ 9223372036854775807) : ∃ f' er, (∀ w A B, FtAt w A B f → Calls Tryz.prog 31 #[.pointer (some ⟨A, 0, none⟩), .string e, .string x] w fun en w' => en = .returned (.int .i64 er) ∧ FtAt w' A B f' ∧ Ex2 A B w w') ∧ (∀ w Y, RfAt w Y f → Calls Tryz.prog 32 #[.pointer (some ⟨Y, 0, none⟩), .string e, .string x] w fun en w' => en = .returned (.int .i64 er) ∧ RfAt w' Y f' ∧ Ex Y w w') := by
  by_cases ha : may e = true ∧ x.size ≤ 64
  · exact ⟨_, _, fun w A B h => reseed_any f e x A B w h ha.1 ha.2, fun w Y h => rreseed_any f e x Y w h ha.1 ha.2⟩
  · have hb : may e = false ∨ 64 < x.size := by
      cases hme : may e with
      | false => exact .inl rfl
      | true => exact .inr (by have : ¬ x.size ≤ 64 := fun h2 => ha ⟨hme, h2⟩; omega)
    refine ⟨f, 2, fun w A B h => (reseed_arg e x A w hb he hx).mono ?_, fun w Y h => (rreseed_arg e x Y w hb he hx).mono ?_⟩
    · rintro en w' ⟨rfl, rfl⟩
      exact ⟨rfl, h, Ex2.refl _ _ _⟩
    · rintro en w' ⟨rfl, rfl⟩
      exact ⟨rfl, h, Ex.refl _ _⟩
theorem read_gen (f : Fnt) (n : Int) (x : ByteArray) (hx : x.size ≤ 9223372036854775807) : ∃ (xs : List Int) (er : Int) (f' : Fnt), xs.length ≤ 200 ∧ (∀ w A B, FtAt w A B f → Calls Tryz.prog 33 #[.pointer (some ⟨A, 0, none⟩), .int .i64 n, .string x] w fun en w' => ∃ ao, en = .returned (.tuple #[.slice ao xs.length xs.length, .int .i64 er]) ∧ OutAt w' ao xs ∧ (∀ gb, ao = some ⟨gb, 0, none⟩ → w.heap.size ≤ gb) ∧ FtAt w' A B f' ∧ Ex2 A B w w') ∧ (∀ w Y, RfAt w Y f → Calls Tryz.prog 34 #[.pointer (some ⟨Y, 0, none⟩), .int .i64 n, .string x] w fun en w' => en = .returned (.tuple #[.string (toS xs), .int .i64 er]) ∧ RfAt w' Y f' ∧ Ex Y w w') := by
  by_cases ha : n < 0 ∨ 200 < n ∨ 64 < x.size
  · refine ⟨[], 2, f, by simp, fun w A B h => (read_arg n x A w ha hx).mono ?_, fun w Y h => (rread_arg n x Y w ha hx).mono ?_⟩
    · rintro en w' ⟨rfl, rfl⟩
      exact ⟨none, rfl, .inl ⟨rfl, rfl⟩, (fun gb hh => by cases hh), h, Ex2.refl _ _ _⟩
    · rintro en w' ⟨rfl, rfl⟩
      exact ⟨rfl, h, Ex.refl _ _⟩
  · obtain ⟨m, rfl⟩ : ∃ m : Nat, n = (m : Int) := ⟨n.toNat, by omega⟩
    by_cases hr : f.r ≤ 8
    · by_cases hok : f.g.ok
      · have hl := bytesF_len hok m (bts x)
        refine ⟨bytesF f.g m (bts x), 0, ⟨behindF f.g f.r m (bts x), f.r + 1⟩, by omega, fun w A B h => (read_any f m x A B w h (by omega) (by omega) hr).mono ?_, fun w Y h => rread_any f m x Y w h (by omega) (by omega) hr⟩
        rintro en w' ⟨gb, rfl, h1, h2, h3, h4⟩
        exact ⟨some ⟨gb, 0, none⟩, by rw [hl], .inr ⟨gb, rfl, h2⟩, fun g' hh => by cases hh; exact h1, h3, h4⟩
      · exact ⟨[], 0, f, by simp, fun w A B h => absurd h.ok hok, fun w Y h => absurd h.ok hok⟩
    · refine ⟨[], 3, f, by simp, fun w A B h => (read_over f m x A B w h (by omega) (by omega) (by omega)).mono ?_, fun w Y h => (rread_over' f m x Y w h (by omega) (by omega) (by omega)).mono ?_⟩
      · rintro en w' ⟨rfl, rfl⟩
        exact ⟨none, rfl, .inl ⟨rfl, rfl⟩, (fun gb hh => by cases hh), h, Ex2.refl _ _ _⟩
      · rintro en w' ⟨rfl, rfl⟩
        exact ⟨rfl, h, Ex.refl _ _⟩
set_option maxRecDepth 20000 in
set_option maxHeartbeats 2000000 in
theorem draws_new (o : OpV) (N Wb k : Nat) (own : Nat → Tag) (t : Sta) (w : World) (h : Inv noTag w N Wb k own t) (ho : o.ok) (hk : o.kind = 6) (hkb : (k + 1) * 96 ≤ 140737488355328) :
    Calls Tryz.prog 12 #[.pointer (some ⟨Wb, 0, none⟩), o.val] w fun e w' => e = .returned (.bool true) ∧ ∃ own' t', Inv noTag w' N Wb (k + 1) own' t' ∧ Nxt w w' own own' := by
  obtain ⟨i0, hi, hz0, hz1, hz2⟩ := info_parts Tryz.info_so
  have HB := hid ((Below.refl w.heap.size w).alloc (Nat.le_refl _) o.obj)
  have HO := hid (OpAt.new w o)
  have G := new_gen o.n o.s o.t o.u (by have := ho.s1; omega) (by have := ho.t1; omega) (by have := ho.u1; omega)
  have hO := HO.out
  obtain ⟨o0, o1, o2, o3, o4, o5, o6, o7, o8, _⟩ := hO
  generalize how : w.alloc o.obj = w1 at *
  unfold OpV.obj at how
  obtain ⟨kd, a, n, s, t0, u, x, y, z⟩ := o
  dsimp only at *
  subst hk
  have HI := hid h
  clear h ho
  unfold OpV.val
  dsimp only
  rcases G with ⟨f, g1, g2⟩ | ⟨er, g1, g2⟩
  · have G1 := hid g1
    have G2 := hid g2
    clear g1 g2
    go_enter Tryz.func12, Tryz.ntmps12
    go_wp2_with fail
    clear how
    refine (G1.out w1).mono ?_
    rintro e w2 ⟨A, B, rfl, hA, hB, hF2, hB2⟩
    have hO2 := HO.out.below hB2
    obtain ⟨q0, q1, q2, q3, q4, q5, q6, q7, q8, _⟩ := hO2
    have HB2 := hid (HB.out.trans (hB2.mono HB.out.size))
    have hA0 : w.heap.size ≤ A := Nat.le_trans HB.out.size hA
    have hB0 : w.heap.size ≤ B := Nat.le_trans HB.out.size hB
    have HF2 := hid hF2
    dsimp only at q0 q1 q2 q3 q4 q5 q6 q7 q8
    clear hB2 hF2 HB HO o0 o1 o2 o3 o4 o5 o6 o7 o8 hA hB
    go_wp2_with fail
    refine (G2.out w2).mono ?_
    rintro e w3 ⟨Y, rfl, hY, hR3, hB3⟩
    have hYl := hR3.lt
    have hF3 := HF2.out.below hB3
    have hAl := HF2.out.lt
    have hBl := HF2.out.gen.lt
    have HB3 := hid (HB2.out.trans (hB3.mono HB2.out.size))
    have hY0 : w.heap.size ≤ Y := Nat.le_trans HB2.out.size hY
    have hNw : N ≤ w.heap.size := by have := HI.out.wlo; omega
    have hB4 : Below w3.heap.size w3 (w3.alloc (.cells #[pt A, pt Y] 69)) := (Below.refl _ _).alloc (Nat.le_refl _) _
    have HBa := HB3.out.trans (hB4.mono HB3.out.size)
    have hI4 := (HI.out.below HBa (.so t.sos.length)).few_ (HI.out.few.mono (show k ≤ k + 1 by omega))
    have hSo : SoAt (w3.alloc (.cells #[pt A, pt Y] 69)) N (fun b => newTag own w.heap.size (.so t.sos.length) b = .so t.sos.length) ⟨A, B, Y, f⟩ :=
      ⟨hF3.below hB4, hR3.other (hB4.block Y hYl), by show Y ≠ A; omega, by show Y ≠ B; omega, newTag_new _ _ _ _ hA0, newTag_new _ _ _ _ hB0, newTag_new _ _ _ _ hY0, by show N ≤ A; omega, by show N ≤ B; omega, by show N ≤ Y; omega⟩
    have hnw := hid (pair_new w3 (pt A) (pt Y) 69)
    have hz4 := al_size w3 (.cells #[pt A, pt Y] 69)
    have hzw := HB3.out.size
    have HNx : Hd (Nxt w (w3.alloc (.cells #[pt A, pt Y] 69)) own (newTag own w.heap.size (.so t.sos.length))) := hid (Nxt.of_below _ _ HBa (newTag_old _ _ _))
    have c0 := ((HI.out.below HB3.out .free).wb (fun hh => hh)).cell 1
    have hv0 : t.vs[1]? = some t.v1 := rfl
    rw [hv0] at c0
    have HI2 := hid hI4
    have HSm := hid hSo
    have hWne : t.v1.ownBlock ≠ some Wb := fun e => by have := (hI4.r1.tag Wb e).1; rw [hI4.wbt] at this; cases this
    have hls := HI.out.few.sos
    clear hI4 hSo hv0 hR3 hB3 hB4 HBa HB3 HB2 HF2 hF3 G1 G2 q0 q1 q2 q3 q4 q5 q6 q7 q8 hA0 hB0 hY0 hY
    unfold pt at hnw HI2 HSm HNx hz4
    go_wp2_with fail
    refine (num_any 0 _).mono ?_
    rintro e w4 ⟨rfl, hw⟩
    have hw4 := hw.symm
    subst hw4
    clear hw
    go_wp2_with fail
    refine (num_any 0 _).mono ?_
    rintro e w4 ⟨rfl, hw⟩
    have hw4 := hw.symm
    subst hw4
    clear hw
    go_wp2_with (at_builtin; refine wpList_append_own_at _ rfl _ _ 28 rfl N 69 i0 (.agg #[.pointer none, .pointer none]) 2 16 Tryz.underlying28 hi hz0 hz1 hz2 rfl (by decide) t.v1 t.sos.length _ rfl (HI2.out.r1.own_ (fun hh => hh)) ⟨w3.heap.size, 0, none⟩ 1 1 [.pointer (some ⟨A, 0, none⟩), .pointer (some ⟨Y, 0, none⟩)] rfl rfl hnw.out (fun u hu => by simp at hu; rcases hu with hu | hu <;> (subst hu; rfl)) (by unfold maxLen; omega) (by omega) (by omega) ?_)
    intro v' w5 hown hgr hiff hat
    have hI3 := HI2.out.app_so HSm.out hown hgr (by rw [hz4]; exact hat) (by omega)
    have hW5 := (HI2.out.wb (fun hh => hh)).other (hgr.block Wb HI2.out.wlo.2 (fun e => hWne e.symm))
    have c05 := hW5.cell 1
    have f05 := hW5.frozen 1
    obtain ⟨a1, n1, hv1⟩ := owns_slice hown
    have HI3 := hid hI3
    clear hown hgr hiff hat hW5 hI3 hnw HI2 HSm c0 hWne
    have hv0 : t.vs[1]? = some t.v1 := rfl
    rw [hv0] at c05
    clear hv0
    subst hv1
    go_wp2
    go_ret
    obtain ⟨own', r1, r2⟩ := HI3.out
    exact ⟨rfl, own', _, r1, HNx.out.trans r2⟩
  · have G1 := hid g1
    have G2 := hid g2
    clear g1 g2
    go_enter Tryz.func12, Tryz.ntmps12
    go_wp2_with fail
    clear how
    refine (G1.out w1).mono ?_
    rintro e w2 ⟨rfl, hB2⟩
    have hO2 := HO.out.below hB2
    obtain ⟨q0, q1, q2, q3, q4, q5, q6, q7, q8, _⟩ := hO2
    have HB2 := hid (HB.out.trans (hB2.mono HB.out.size))
    dsimp only at q0 q1 q2 q3 q4 q5 q6 q7 q8
    clear hB2 HB HO o0 o1 o2 o3 o4 o5 o6 o7 o8
    go_wp2_with fail
    refine (G2.out w2).mono ?_
    rintro e w3 ⟨rfl, hB3⟩
    have HB3 := hid (HB2.out.trans (hB3.mono HB2.out.size))
    clear hB3 HB2 G1 G2 q0 q1 q2 q3 q4 q5 q6 q7 q8
    go_wp2_with fail
    refine (num_any er _).mono ?_
    rintro e w4 ⟨rfl, hw⟩
    have hw4 := hw.symm
    subst hw4
    clear hw
    go_wp2_with fail
    refine (num_any er _).mono ?_
    rintro e w4 ⟨rfl, hw⟩
    have hw4 := hw.symm
    subst hw4
    clear hw
    go_wp2
    go_ret
    exact ⟨rfl, _, t, (HI.out.below HB3.out .free).few_ (HI.out.few.mono (by omega)), Nxt.of_below _ _ HB3.out (newTag_old _ _ _)⟩
end Go.Proofs.YtbifmhbkmnofiaaGreat
namespace Go.Proofs.YtbifmhbkmnofiaaGreat
open Go.RowKit
set_option linter.unusedVariables false
set_option linter.unusedSimpArgs false
theorem OutAt.other {w w' : World} {ao : Option Addr} {xs : List Int} (h : OutAt w ao xs) (he : ∀ gb, ao = some ⟨gb, 0, none⟩ → w'.heap[gb]? = w.heap[gb]?) : OutAt w' ao xs := by
  rcases h with h | ⟨gb, h1, h2⟩
  · exact .inl h
  · exact .inr ⟨gb, h1, (he gb h1).trans h2⟩
set_option maxRecDepth 20000 in
set_option maxHeartbeats 4000000 in
theorem draws_rest (o : OpV) (N Wb k : Nat) (own : Nat → Tag) (t : Sta) (w : World) (h : Inv noTag w N Wb k own t) (ho : o.ok) (hk1 : 7 ≤ o.kind) (hk2 : o.kind ≤ 8) (h0 : 0 < t.sos.length) (hkb : (k + 1) * 96 ≤ 140737488355328) :
    Calls Tryz.prog 12 #[.pointer (some ⟨Wb, 0, none⟩), o.val] w fun e w' => e = .returned (.bool true) ∧ ∃ own' t', Inv noTag w' N Wb (k + 1) own' t' ∧ Nxt w w' own own' := by
  have HB := hid ((Below.refl w.heap.size w).alloc (Nat.le_refl _) o.obj)
  have hI := h.below HB.out .op
  have HO := hid (OpAt.new w o)
  have c0 := (hI.wb (fun hh => hh)).cell 1
  have hrow := hI.r1.own_ (fun hh => hh)
  have hsl := h.few.sos
  obtain ⟨p0, p1⟩ := pickI_bd o.a t.sos.length (by omega)
  obtain ⟨i, hi⟩ : ∃ i : Nat, pickI o.a t.sos.length = (i : Int) := ⟨(pickI o.a t.sos.length).toNat, by omega⟩
  rw [hi] at p0 p1
  have hil : i < t.sos.length := by omega
  obtain ⟨q, hgi⟩ : ∃ q, t.sos[i]? = some q := ⟨_, List.getElem?_eq_getElem hil⟩
  obtain ⟨f1, f2⟩ := flatP_get _ i (q.A, q.Y) (by rw [List.getElem?_map, hgi]; rfl)
  obtain ⟨g0, cap0, hv0⟩ : ∃ g cap, t.v1 = .slice (some ⟨g, 0, none⟩) t.sos.length cap := by
    rcases hrow.2 with ⟨hh, h1⟩ | ⟨g, cap, cur, hv, _, hg, _⟩
    · omega
    · exact ⟨g, cap, hv⟩
  have hob0 : t.v1.ownBlock = some g0 := by rw [hv0]; rfl
  have e1 := World.ownsRow.cells hrow (g := g0) hob0 _ _ f1
  have e2 := World.ownsRow.cells hrow (g := g0) hob0 _ _ f2
  rw [Addr.add_mid, Nat.zero_add] at e1 e2
  unfold pt at e1 e2
  have hv : t.vs[1]? = some t.v1 := rfl
  rw [hv, hv0] at c0
  have Hpk := hid (fun w' => lpick_any o.a t.sos.length w' ho.a0 ho.a1 (by omega) (by omega))
  rw [hi] at Hpk
  obtain ⟨o0, o1, o2, o3, o4, o5, o6, o7, o8, _⟩ := HO.out
  have HI := hid hI
  have HI0 := hid h
  have Hho := hid ho
  have Hz1 := hid (al_size w o.obj)
  clear hI h hv hv0 hrow f1 f2 ho hob0
  generalize how : w.alloc o.obj = w1 at *
  unfold OpV.obj at how
  obtain ⟨kd, a, n, s, t0, u, x, y, z⟩ := o
  dsimp only at *
  have b6 : (kd == 6) = false := bne_of (by omega)
  unfold OpV.val
  dsimp only
  go_enter Tryz.func12, Tryz.ntmps12
  go_upto_region 11 with fail
  clear how
  go_cut [9] (fun pv wr => pv = .pointer (some ⟨w1.heap.size, 0, none⟩) ∧ PairAt wr w1.heap.size q.A q.Y ∧ Below w1.heap.size w1 wr)
  case first =>
    refine wp_region_E (S := fun w' => w'.cell? ⟨Wb, 1, none⟩ = some (.slice (some ⟨g0, 0, none⟩) t.sos.length cap0) ∧ w'.cell? ⟨w.heap.size, 1, none⟩ = some (.int .i64 a) ∧ w'.cell? ⟨g0, i * 2, none⟩ = some (.pointer (some ⟨q.A, 0, none⟩)) ∧ w'.cell? ⟨g0, i * 2 + 1, none⟩ = some (.pointer (some ⟨q.Y, 0, none⟩))) 15 (by kernel_rfl) ⟨c0, o1, e1, e2⟩ (fun hSw => ?_)
    refine wpAnyE_take (i := 0) (v := ?_) rfl (by decide +kernel) (by decide) (by decide +kernel) (by decide +kernel) (by decide +kernel) (fun _ _ _ h => h) (Or.inl ⟨by rfl, ?_⟩) hSw ?_
    rotate_left
    · intro w hw; go_simp; try with_reducible rfl
    simp only [Act.put, List.getElem_toArray, List.getElem_cons_zero, List.getElem_cons_succ, List.setIfInBounds_toArray, List.set_cons_zero, List.set_cons_succ]
    refine wpAnyE_take (i := 1) (v := ?_) rfl (by decide +kernel) (by decide) (by decide +kernel) (by decide +kernel) (by decide +kernel) (fun _ _ _ h => h) (Or.inl ⟨by rfl, ?_⟩) hSw ?_
    rotate_left
    · intro w hw; go_simp; try with_reducible rfl
    simp only [Act.put, List.getElem_toArray, List.getElem_cons_zero, List.getElem_cons_succ, List.setIfInBounds_toArray, List.set_cons_zero, List.set_cons_succ]
    refine wpAnyE_take (i := 2) (v := ?_) rfl (by decide +kernel) (by decide) (by decide +kernel) (by decide +kernel) (by decide +kernel) (fun _ _ _ h => h) (Or.inl ⟨by rfl, ?_⟩) hSw ?_
    rotate_left
    · intro w hw; go_simp; try with_reducible rfl
    simp only [Act.put, List.getElem_toArray, List.getElem_cons_zero, List.getElem_cons_succ, List.setIfInBounds_toArray, List.set_cons_zero, List.set_cons_succ]
    refine wpAnyE_take (i := 3) (v := ?_) rfl (by decide +kernel) (by decide) (by decide +kernel) (by decide +kernel) (by decide +kernel) (fun _ _ _ h => h) (Or.inl ⟨by rfl, ?_⟩) hSw ?_
    rotate_left
    · intro w hw; have hcell := hw.1; clear hw; go_simp; try with_reducible rfl
    simp only [Act.put, List.getElem_toArray, List.getElem_cons_zero, List.getElem_cons_succ, List.setIfInBounds_toArray, List.set_cons_zero, List.set_cons_succ]
    refine wpAnyE_take (i := 4) (v := ?_) rfl (by decide +kernel) (by decide) (by decide +kernel) (by decide +kernel) (by decide +kernel) (fun _ _ _ h => h) (Or.inl ⟨by rfl, ?_⟩) hSw ?_
    rotate_left
    · intro w hw; go_simp; try with_reducible rfl
    simp only [Act.put, List.getElem_toArray, List.getElem_cons_zero, List.getElem_cons_succ, List.setIfInBounds_toArray, List.set_cons_zero, List.set_cons_succ]
    refine wpAnyE_take (i := 5) (v := ?_) rfl (by decide +kernel) (by decide) (by decide +kernel) (by decide +kernel) (by decide +kernel) (fun _ _ _ h => h) (Or.inl ⟨by rfl, ?_⟩) hSw ?_
    rotate_left
    · intro w hw; have hcell := hw.2.1; clear hw; go_simp; try with_reducible rfl
    simp only [Act.put, List.getElem_toArray, List.getElem_cons_zero, List.getElem_cons_succ, List.setIfInBounds_toArray, List.set_cons_zero, List.set_cons_succ]
    refine wpAnyE_take (i := 6) (v := ?_) rfl (by decide +kernel) (by decide) (by decide +kernel) (by decide +kernel) (by decide +kernel) (fun _ _ _ h => h) (Or.inl ⟨by rfl, ?_⟩) hSw ?_
    rotate_left
    · intro w hw; go_simp; try with_reducible rfl
    simp only [Act.put, List.getElem_toArray, List.getElem_cons_zero, List.getElem_cons_succ, List.setIfInBounds_toArray, List.set_cons_zero, List.set_cons_succ]
    refine wpAnyE_take (i := 7) (v := ?_) rfl (by decide +kernel) (by decide) (by decide +kernel) (by decide +kernel) (by decide +kernel) (fun _ _ _ h => h) (Or.inl ⟨by rfl, ?_⟩) hSw ?_
    rotate_left
    · intro w hw; go_simp; try with_reducible rfl
    simp only [Act.put, List.getElem_toArray, List.getElem_cons_zero, List.getElem_cons_succ, List.setIfInBounds_toArray, List.set_cons_zero, List.set_cons_succ]
    refine wpAnyE_take (i := 8) (v := ?_) rfl (by decide +kernel) (by decide) (by decide +kernel) (by decide +kernel) (by decide +kernel) (fun _ _ _ h => h) (Or.inl ⟨by rfl, ?_⟩) hSw ?_
    rotate_left
    · intro w hw; go_simp; try with_reducible rfl
    simp only [Act.put, List.getElem_toArray, List.getElem_cons_zero, List.getElem_cons_succ, List.setIfInBounds_toArray, List.set_cons_zero, List.set_cons_succ]
    refine wpAnyE_take (i := 9) (v := ?_) rfl (by decide +kernel) (by decide) (by decide +kernel) (by decide +kernel) (by decide +kernel) (fun _ _ _ h => h) (Or.inl ⟨by rfl, ?_⟩) hSw ?_
    rotate_left
    · intro w hw; have hcell := hw.1; clear hw; go_simp; try with_reducible rfl
    simp only [Act.put, List.getElem_toArray, List.getElem_cons_zero, List.getElem_cons_succ, List.setIfInBounds_toArray, List.set_cons_zero, List.set_cons_succ]
    refine wpAnyE_take (i := 10) (v := ?_) rfl (by decide +kernel) (by decide) (by decide +kernel) (by decide +kernel) (by decide +kernel) (fun _ _ _ h => h) (Or.inl ⟨by rfl, ?_⟩) hSw ?_
    rotate_left
    · intro w hw; go_simp; try with_reducible rfl
    simp only [Act.put, List.getElem_toArray, List.getElem_cons_zero, List.getElem_cons_succ, List.setIfInBounds_toArray, List.set_cons_zero, List.set_cons_succ]
    have hSa : ∀ ob : Obj, (w1.alloc ob).drew.cell? ⟨Wb, 1, none⟩ = some (.slice (some ⟨g0, 0, none⟩) t.sos.length cap0) ∧ (w1.alloc ob).drew.cell? ⟨w.heap.size, 1, none⟩ = some (.int .i64 a) ∧ (w1.alloc ob).drew.cell? ⟨g0, i * 2, none⟩ = some (.pointer (some ⟨q.A, 0, none⟩)) ∧ (w1.alloc ob).drew.cell? ⟨g0, i * 2 + 1, none⟩ = some (.pointer (some ⟨q.Y, 0, none⟩)) := fun ob => by
      have hB : Below w1.heap.size w1 (w1.alloc ob) := (Below.refl _ _).alloc (Nat.le_refl _) ob
      refine ⟨?_, ?_, ?_, ?_⟩
      · show (w1.alloc ob).cell? _ = _; rw [hB.cell (World.block_lt_of_cell? w1 _ c0)]; exact c0
      · show (w1.alloc ob).cell? _ = _; rw [hB.cell (World.block_lt_of_cell? w1 _ o1)]; exact o1
      · show (w1.alloc ob).cell? _ = _; rw [hB.cell (World.block_lt_of_cell? w1 _ e1)]; exact e1
      · show (w1.alloc ob).cell? _ = _; rw [hB.cell (World.block_lt_of_cell? w1 _ e2)]; exact e2
    have HSa := hid hSa
    have HPn := hid (PairAt.new w1 q.A q.Y 69)
    have HBn := hid ((Below.refl w1.heap.size w1).alloc (Nat.le_refl _) (.cells #[.pointer (some ⟨q.A, 0, none⟩), .pointer (some ⟨q.Y, 0, none⟩)] 69))
    clear hSa
    refine wpAnyE_two (i := 11) (j := 14) (by kernel_rfl) rfl rfl (fun K hK => ?_) (fun K hK => ?_)
    · go_simp
      refine (Hpk.out w1.drew).mono ?_
      rintro e w2 ⟨rfl, hw⟩
      have hw2 := hw.symm
      subst hw2
      clear hw
      refine hK.out _ _ (fun _ => hSw) ?_
      clear hK K
      refine wpAnyE_take (i := 12) (v := ?_) rfl (by decide +kernel) (by decide) (by decide +kernel) (by decide +kernel) (by decide +kernel) (fun _ _ _ h => h) (Or.inl ⟨by rfl, ?_⟩) hSw ?_
      rotate_left
      · intro w hw; go_simp; try with_reducible rfl
      simp only [Act.put, List.getElem_toArray, List.getElem_cons_zero, List.getElem_cons_succ, List.setIfInBounds_toArray, List.set_cons_zero, List.set_cons_succ]
      refine wpAnyE_take (i := 13) (v := ?_) rfl (by decide +kernel) (by decide) (by decide +kernel) (by decide +kernel) (by decide +kernel) (fun _ _ _ h => h) (Or.inl ⟨by rfl, ?_⟩) hSw ?_
      rotate_left
      · intro w hw; have hcell := hw.2.2; clear hw; obtain ⟨hcell1, hcell2⟩ := hcell; go_simp; try with_reducible rfl
      simp only [Act.put, List.getElem_toArray, List.getElem_cons_zero, List.getElem_cons_succ, List.setIfInBounds_toArray, List.set_cons_zero, List.set_cons_succ]
      refine wpAnyE_one (i := 14) (by kernel_rfl) rfl (fun K hK => ?_)
      go_simp
      refine hK.out _ _ (fun _ => HSa.out _) ?_
      clear hK K
      refine wpAnyE_one (i := 15) (by kernel_rfl) rfl (fun K hK => ?_)
      go_simp
      refine hK.out _ _ (fun h => absurd rfl h) ?_
      clear hK K hSw
      refine wpAnyE_done (by kernel_rfl) ?_ _
      go_wp2
      go_meet
      exact ⟨rfl, ⟨HPn.out.c0, HPn.out.c1, HPn.out.lt⟩, ⟨HBn.out.os, HBn.out.tape, HBn.out.output, HBn.out.size, HBn.out.block⟩⟩
    · go_simp
      refine hK.out _ _ (fun _ => HSa.out _) ?_
      replace hSw := HSa.out (.cells #[.pointer none, .pointer none] 69)
      clear hK K
      refine wpAnyE_one (i := 11) (by kernel_rfl) rfl (fun K hK => ?_)
      go_simp
      refine (Hpk.out _).mono ?_
      rintro e w2 ⟨rfl, rfl⟩
      refine hK.out _ _ (fun _ => hSw) ?_
      clear hK K
      refine wpAnyE_take (i := 12) (v := ?_) rfl (by decide +kernel) (by decide) (by decide +kernel) (by decide +kernel) (by decide +kernel) (fun _ _ _ h => h) (Or.inl ⟨by rfl, ?_⟩) hSw ?_
      rotate_left
      · intro w hw; go_simp; try with_reducible rfl
      simp only [Act.put, List.getElem_toArray, List.getElem_cons_zero, List.getElem_cons_succ, List.setIfInBounds_toArray, List.set_cons_zero, List.set_cons_succ]
      refine wpAnyE_take (i := 13) (v := ?_) rfl (by decide +kernel) (by decide) (by decide +kernel) (by decide +kernel) (by decide +kernel) (fun _ _ _ h => h) (Or.inl ⟨by rfl, ?_⟩) hSw ?_
      rotate_left
      · intro w hw; have hcell := hw.2.2; clear hw; obtain ⟨hcell1, hcell2⟩ := hcell; go_simp; try with_reducible rfl
      simp only [Act.put, List.getElem_toArray, List.getElem_cons_zero, List.getElem_cons_succ, List.setIfInBounds_toArray, List.set_cons_zero, List.set_cons_succ]
      refine wpAnyE_one (i := 15) (by kernel_rfl) rfl (fun K hK => ?_)
      go_simp
      refine hK.out _ _ (fun h => absurd rfl h) ?_
      clear hK K hSw
      refine wpAnyE_done (by kernel_rfl) ?_ _
      go_wp2
      go_meet
      exact ⟨rfl, ⟨HPn.out.c0, HPn.out.c1, HPn.out.lt⟩, ⟨HBn.out.os, HBn.out.tape, HBn.out.output, HBn.out.size, HBn.out.block⟩⟩
  case rest =>
    obtain ⟨rfl, hP, hBl⟩ := hcut
    have HBa := hid (HB.out.trans (hBl.mono HB.out.size))
    have HP := hid hP
    have hOc := HO.out.below hBl
    have HOc := hid hOc
    have HI1 := hid (HI0.out.below HBa.out .op)
    have hB1 : newTag own w.heap.size .op w.heap.size = .op := newTag_new _ _ _ _ (Nat.le_refl _)
    have hB2 : newTag own w.heap.size .op w1.heap.size = .op := newTag_new _ _ _ _ HB.out.size
    obtain ⟨o0, o1, o2, o3, o4, o5, o6, o7, o8, _⟩ := hOc
    obtain ⟨q0, q1, _⟩ := hP
    have HNx : Hd (Nxt w wc own (newTag own w.heap.size .op)) := hid (Nxt.of_below _ _ HBa.out (newTag_old _ _ _))
    clear hBl HI HB HO c0 e1 e2 Hpk
    generalize newTag own w.heap.size .op = own1 at *
    have hA := HI1.out.so i q hgi (fun hh => hh)
    have hss := Hho.out.s1
    have hst := Hho.out.t1
    dsimp only at hss hst
    have hAop1 : w1.heap.size ≠ q.A := fun e => by have := hA.sa; rw [← e, hB2] at this; cases this
    have hAop2 : w.heap.size ≠ q.A := fun e => by have := hA.sa; rw [← e, hB1] at this; cases this
    have hBop1 : w1.heap.size ≠ q.B := fun e => by have := hA.sb; rw [← e, hB2] at this; cases this
    have hBop2 : w.heap.size ≠ q.B := fun e => by have := hA.sb; rw [← e, hB1] at this; cases this
    have hYop1 : w1.heap.size ≠ q.Y := fun e => by have := hA.sy; rw [← e, hB2] at this; cases this
    have hYop2 : w.heap.size ≠ q.Y := fun e => by have := hA.sy; rw [← e, hB1] at this; cases this
    have HA := hid hA
    clear hA
    by_cases h7 : kd = 7
    · subst h7
      obtain ⟨f', er, g1, g2⟩ := reseed_gen q.f s t0 (by omega) (by omega)
      have G1 := hid (g1 wc q.A q.B HA.out.ft)
      have G2 := hid g2
      clear g1 g2
      go_wp2_with fail
      refine G1.out.mono ?_
      rintro e w3 ⟨rfl, hF3, hE3⟩
      have hP3 := HP.out.other hE3.size (hE3.block _ HP.out.lt hAop1 hBop1)
      have hO3 := HOc.out.other hE3.size (hE3.block _ HOc.out.lt hAop2 hBop2)
      have hR3 := HA.out.rf.other (hE3.block q.Y HA.out.rf.lt HA.out.ya HA.out.yb)
      have G3 := hid (G2.out w3 q.Y hR3)
      obtain ⟨r0, r1, _⟩ := hP3
      obtain ⟨x0, x1, x2, x3, x4, x5, x6, x7, x8, _⟩ := hO3
      have HF3 := hid hF3
      have HE3 := hid hE3
      dsimp only at x0 x1 x2 x3 x4 x5 x6 x7 x8
      clear hF3 hE3 hR3 G1 G2 o0 o1 o2 o3 o4 o5 o6 o7 o8 q0 q1
      go_wp2_with fail
      refine G3.out.mono ?_
      rintro e w4 ⟨rfl, hR4, hE4⟩
      have hF4 : Fr (fun b => (b = q.A ∨ b = q.B) ∨ b = q.Y) wc w4 := ((Fr.of_ex2 HE3.out).mono (fun b _ hb => .inl hb)).trans ((Fr.of_ex hE4).mono (fun b _ hb => .inr hb))
      have hex : ∀ b, b < wc.heap.size → ((b = q.A ∨ b = q.B) ∨ b = q.Y) → own1 b = .so i := by
        rintro b _ ((rfl | rfl) | rfl)
        · exact HA.out.sa
        · exact HA.out.sb
        · exact HA.out.sy
      have hI4 := (HI1.out.weak (ex' := fun gg => gg = .so i) (fun _ hh => hh.elim)).fr hF4 hex (fun _ _ => rfl)
      have hS4 : SoAt w4 N (fun b => own1 b = .so i) ⟨q.A, q.B, q.Y, f'⟩ := ⟨HF3.out.other (hE4.block q.A HF3.out.lt HA.out.ya.symm) (hE4.block q.B HF3.out.gen.lt HA.out.yb.symm), hR4, HA.out.ya, HA.out.yb, HA.out.sa, HA.out.sb, HA.out.sy, HA.out.na, HA.out.nb, HA.out.ny⟩
      have HI5 := hid (hI4.set_so (k' := k + 1) (x' := ⟨q.A, q.B, q.Y, f'⟩) hgi rfl rfl hS4 (Few.set_so HI0.out.few))
      have HN5 := hid (HNx.out.trans (Nxt.of_fr hF4 (fun b hb hh => by rw [hex b hb hh]; exact trivial) (fun _ _ => rfl)))
      clear hR4 hE4 hF4 hex hI4 hS4 G3 r0 r1 x0 x1 x2 x3 x4 x5 x6 x7 x8
      go_wp2_with fail
      refine (num_any er _).mono ?_
      rintro e w7 ⟨rfl, hw⟩
      have hw7 := hw.symm
      subst hw7
      clear hw
      go_wp2_with fail
      refine (num_any er _).mono ?_
      rintro e w7 ⟨rfl, hw⟩
      have hw7 := hw.symm
      subst hw7
      clear hw
      go_wp2
      go_ret
      exact ⟨rfl, own1, _, HI5.out, HN5.out⟩
    · have h8 : kd = 8 := by omega
      subst h8
      obtain ⟨xs, er, f', hxl, g1, g2⟩ := read_gen q.f n s (by omega)
      have G1 := hid (g1 wc q.A q.B HA.out.ft)
      have G2 := hid g2
      clear g1 g2
      go_wp2_with fail
      refine G1.out.mono ?_
      rintro e w3 ⟨ao, rfl, hO0, hao, hF3, hE3⟩
      have hP3 := HP.out.other hE3.size (hE3.block _ HP.out.lt hAop1 hBop1)
      have hO3 := HOc.out.other hE3.size (hE3.block _ HOc.out.lt hAop2 hBop2)
      have hR3 := HA.out.rf.other (hE3.block q.Y HA.out.rf.lt HA.out.ya HA.out.yb)
      have G3 := hid (G2.out w3 q.Y hR3)
      obtain ⟨r0, r1, _⟩ := hP3
      obtain ⟨x0, x1, x2, x3, x4, x5, x6, x7, x8, _⟩ := hO3
      have HF3 := hid hF3
      have HE3 := hid hE3
      have HO0 := hid hO0
      have Hao := hid hao
      dsimp only at x0 x1 x2 x3 x4 x5 x6 x7 x8
      clear hF3 hE3 hR3 hO0 hao G1 G2 o0 o1 o2 o3 o4 o5 o6 o7 o8 q0 q1
      go_wp2_with fail
      refine G3.out.mono ?_
      rintro e w4 ⟨rfl, hR4, hE4⟩
      have hF4 : Fr (fun b => (b = q.A ∨ b = q.B) ∨ b = q.Y) wc w4 := ((Fr.of_ex2 HE3.out).mono (fun b _ hb => .inl hb)).trans ((Fr.of_ex hE4).mono (fun b _ hb => .inr hb))
      have hex : ∀ b, b < wc.heap.size → ((b = q.A ∨ b = q.B) ∨ b = q.Y) → own1 b = .so i := by
        rintro b _ ((rfl | rfl) | rfl)
        · exact HA.out.sa
        · exact HA.out.sb
        · exact HA.out.sy
      have hold := newTag_old own1 wc.heap.size (.li t.lis.length)
      have hI4 := (HI1.out.weak (ex' := fun gg => gg = .so i) (fun _ hh => hh.elim)).fr hF4 hex hold
      have hS4 : SoAt w4 N (fun b => newTag own1 wc.heap.size (.li t.lis.length) b = .so i) ⟨q.A, q.B, q.Y, f'⟩ := ⟨HF3.out.other (hE4.block q.A HF3.out.lt HA.out.ya.symm) (hE4.block q.B HF3.out.gen.lt HA.out.yb.symm), hR4, HA.out.ya, HA.out.yb, by rw [hold q.A HA.out.ft.lt]; exact HA.out.sa, by rw [hold q.B HA.out.ft.gen.lt]; exact HA.out.sb, by rw [hold q.Y HA.out.rf.lt]; exact HA.out.sy, HA.out.na, HA.out.nb, HA.out.ny⟩
      have hI5 := hI4.set_so (k' := k + 1) (x' := ⟨q.A, q.B, q.Y, f'⟩) hgi rfl rfl hS4 (Few.set_so HI0.out.few)
      have hNwc : N ≤ wc.heap.size := by have := HI1.out.wlo; omega
      have hO4 : OutAt w4 ao xs := HO0.out.other (fun gb hgb => hE4.block gb (by have := HO0.out; rw [hgb] at this; exact this.lt) (by have := Hao.out gb hgb; have := HA.out.rf.lt; omega))
      have TK := hid (took_inv ao xs er N Wb (k + 1) (newTag own1 wc.heap.size (.li t.lis.length)) _ w4 hI5 hO4 (by omega) (fun gb hgb => ⟨newTag_new _ _ _ _ (Hao.out gb hgb), by have := Hao.out gb hgb; omega⟩) (by show t.lis.length + 4 ≤ _; have := HI0.out.few.lis; omega) (by omega))
      have HN5 := hid (HNx.out.trans (Nxt.of_fr hF4 (fun b hb hh => by rw [hex b hb hh]; exact trivial) hold))
      clear hR4 hE4 hF4 hex hI4 hS4 hI5 hO4 hold G3 r0 r1 x0 x1 x2 x3 x4 x5 x6 x7 x8 HO0
      go_wp2_with fail
      refine TK.out.mono ?_
      rintro e w5 ⟨rfl, own5, t5, hI6, hN6⟩
      have HI6 := hid hI6
      have HN6 := hid (HN5.out.trans hN6)
      clear hI6 hN6 TK
      go_wp2
      go_ret
      exact ⟨rfl, own5, t5, HI6.out, HN6.out⟩
end Go.Proofs.YtbifmhbkmnofiaaGreat
