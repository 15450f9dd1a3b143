import Derived.Test.YtbifmhbkmnofiaaGreatNj
namespace Go.Proofs.YtbifmhbkmnofiaaGreat
open Go.RowKit
set_option linter.unusedVariables false
set_option linter.unusedSimpArgs false
/-- what Feed of a guard answers, and the guard behind it -/
def feedT (g : Gd) (xs : List Int) : Int × Int × Gd := if g.br = true then (0, 6, g) else if 200 < xs.length then (0, 2, g) else fedG g xs
theorem feedT_ok {g : Gd} (h : g.ok) (xs : List Int) : (feedT g xs).2.2.ok := by
  unfold feedT
  split
  · exact h
  · split
    · exact h
    · exact (fedG_form h xs).1
theorem gfeed_gen (g : Gd) (A : Nat) (v : Value) (xs : List Int) (w : World) (h : GdAt w A g) (hok : g.ok) (hv : Byt w v xs) (hvB : ∀ ad n c, v = .slice (some ad) n c → 0 < n → ad.block ≠ A) :
    Calls Tryz.prog 40 #[.pointer (some ⟨A, 0, none⟩), v] w fun e w' => e = .returned (.tuple #[.int .i64 (feedT g xs).1, .int .i64 (feedT g xs).2.1]) ∧ GdAt w' A (feedT g xs).2.2 ∧ Ex A w w' := by
  obtain ⟨a, c, hve, _⟩ := hv.form2
  cases hb : g.br with
  | true =>
    have e : feedT g xs = (0, 6, g) := by unfold feedT; rw [if_pos hb]
    rw [e]
    subst hve
    refine (gfeed_dead g A a _ c w h hb).mono ?_
    rintro en w' ⟨rfl, rfl⟩
    exact ⟨rfl, h, Ex.refl _ _⟩
  | false =>
    by_cases hn : 200 < xs.length
    · have e : feedT g xs = (0, 2, g) := by unfold feedT; rw [if_neg (by rw [hb]; decide), if_pos hn]
      rw [e]
      subst hve
      refine (gfeed_many g A a _ c w h hb hn).mono ?_
      rintro en w' ⟨rfl, rfl⟩
      exact ⟨rfl, h, Ex.refl _ _⟩
    · have e : feedT g xs = fedG g xs := by unfold feedT; rw [if_neg (by rw [hb]; decide), if_neg hn]
      rw [e]
      have hl := hok.l
      exact gfeed_take g A v xs w h hb hv hvB (by omega) hok.x hl.2.1 hl.2.2.1 hl.2.2.2.1 (by omega)
theorem rgfeed_gen (N Y : Nat) (bs : List Nat) (g : Gd) (rg : Rg) (v : Value) (xs : List Int) (w : World) (h : RgAt w N Y bs rg) (hR : GR g rg) (hv : Byt w v xs) (hvB : ∀ ad n c, v = .slice (some ad) n c → 0 < n → ad.block ∉ bs) (hcl : rg.cs.length + 200 ≤ 70368744177664) (hN : N ≤ w.heap.size) :
    Calls Tryz.prog 41 #[.pointer (some ⟨Y, 0, none⟩), v] w fun e w' => e = .returned (.tuple #[.int .i64 (feedT g xs).1, .int .i64 (feedT g xs).2.1]) ∧ ∃ bs' rg', RgAt w' N Y bs' rg' ∧ GR (feedT g xs).2.2 rg' ∧ rg'.cs.length ≤ rg.cs.length + 200 ∧ Turns w w' bs bs' := by
  obtain ⟨a, c, hve, _⟩ := hv.form2
  cases hb : g.br with
  | true =>
    have e : feedT g xs = (0, 6, g) := by unfold feedT; rw [if_pos hb]
    rw [e]
    subst hve
    refine (rgfeed_dead N Y bs rg a _ c w h (by rw [hR.br]; exact hb)).mono ?_
    rintro en w' ⟨rfl, rfl⟩
    exact ⟨rfl, bs, rg, h, hR, by omega, Turns.refl _ _⟩
  | false =>
    by_cases hn : 200 < xs.length
    · have e : feedT g xs = (0, 2, g) := by unfold feedT; rw [if_neg (by rw [hb]; decide), if_pos hn]
      rw [e]
      subst hve
      refine (rgfeed_many N Y bs rg a _ c w h (by rw [hR.br]; exact hb) hn).mono ?_
      rintro en w' ⟨rfl, rfl⟩
      exact ⟨rfl, bs, rg, h, hR, by omega, Turns.refl _ _⟩
    · have e : feedT g xs = fedG g xs := by unfold feedT; rw [if_neg (by rw [hb]; decide), if_neg hn]
      rw [e]
      refine (rgfeed_take N Y bs g rg v xs w h hR hb hv hvB (by omega) (by omega) hN).mono ?_
      rintro en w' ⟨rfl, bs', rg', h1, h2, h3, h4⟩
      exact ⟨rfl, bs', rg', h1, h2, by omega, h4⟩
theorem guard_gen (st wi sk : Int) (N : Nat) :
    (∃ (g : Gd) (rg : Rg), g.ok ∧ GR g rg ∧ rg.cs.length = 0 ∧ (∀ w, Calls Tryz.prog 36 #[.agg #[.int .i64 st, .int .i64 wi, .int .i64 sk]] w fun e w' => ∃ A, e = .returned (.tuple #[.pointer (some ⟨A, 0, none⟩), .int .i64 0]) ∧ w.heap.size ≤ A ∧ GdAt w' A g ∧ Below w.heap.size w w') ∧ (∀ w, N ≤ w.heap.size → Calls Tryz.prog 37 #[.agg #[.int .i64 st, .int .i64 wi, .int .i64 sk]] w fun e w' => ∃ Y, e = .returned (.tuple #[.pointer (some ⟨Y, 0, none⟩), .int .i64 0]) ∧ w.heap.size ≤ Y ∧ RgAt w' N Y [Y] rg ∧ Below w.heap.size w w')) ∨
    ((∀ w, Calls Tryz.prog 36 #[.agg #[.int .i64 st, .int .i64 wi, .int .i64 sk]] w fun e w' => e = .returned (.tuple #[.pointer none, .int .i64 2]) ∧ Below w.heap.size w w') ∧ (∀ w, Calls Tryz.prog 37 #[.agg #[.int .i64 st, .int .i64 wi, .int .i64 sk]] w fun e w' => e = .returned (.tuple #[.pointer none, .int .i64 2]) ∧ Below w.heap.size w w')) := by
  by_cases h : 2 ≤ st ∧ st ≤ 50 ∧ 2 ≤ wi ∧ wi ≤ 50 ∧ 2 ≤ sk ∧ sk ≤ wi
  · exact .inl ⟨⟨st, wi, sk, W0, false⟩, ⟨st, wi, sk, [], false⟩, Gd.ok_new h false, ⟨rfl, rfl, rfl, rfl, Gd.ok_new h false, fun _ => Ab.zero _⟩, rfl, fun w => newGuard_yes st wi sk w h, fun w hN => rnewGuard_yes st wi sk N w h hN⟩
  · exact .inr ⟨fun w => newGuard_no st wi sk w h, fun w => rnewGuard_no st wi sk w h⟩
set_option maxRecDepth 20000 in
set_option maxHeartbeats 2000000 in
theorem watches_new (o : OpV) (N Wb k : Nat) (own : Nat → Tag) (t : Sta) (w : World) (h : Inv noTag w N Wb k own t) (ho : o.ok) (hk : o.kind = 9) (hkb : (k + 1) * 96 ≤ 140737488355328) :
    Calls Tryz.prog 13 #[.pointer (some ⟨Wb, 0, none⟩), o.val] w fun e w' => e = .returned (.bool true) ∧ ∃ own' t', Inv noTag w' N Wb (k + 1) own' t' ∧ Nxt w w' own own' := by
  obtain ⟨i0, hi, hz0, hz1, hz2⟩ := info_parts Tryz.info_gu
  have HB := hid ((Below.refl w.heap.size w).alloc (Nat.le_refl _) o.obj)
  have HO := hid (OpAt.new w o)
  have G := guard_gen o.x o.y o.z N
  have hO := HO.out
  obtain ⟨o0, o1, o2, o3, o4, o5, o6, o7, o8, _⟩ := hO
  generalize how : w.alloc o.obj = w1 at *
  unfold OpV.obj at how
  obtain ⟨kd, a, n, s, t0, u, x, y, z⟩ := o
  dsimp only at *
  subst hk
  have HI := hid h
  clear h ho
  unfold OpV.val
  dsimp only
  rcases G with ⟨g, rg, hgok, hgr, hcs, g1, g2⟩ | ⟨g1, g2⟩
  · have G1 := hid g1
    have G2 := hid g2
    clear g1 g2
    go_enter Tryz.func13, Tryz.ntmps13
    go_wp2_with fail
    clear how
    refine (G1.out w1).mono ?_
    rintro e w2 ⟨A, rfl, hA, hF2, hB2⟩
    have hO2 := HO.out.below hB2
    obtain ⟨q0, q1, q2, q3, q4, q5, q6, q7, q8, _⟩ := hO2
    have HB2 := hid (HB.out.trans (hB2.mono HB.out.size))
    have hA0 : w.heap.size ≤ A := Nat.le_trans HB.out.size hA
    have HF2 := hid hF2
    dsimp only at q0 q1 q2 q3 q4 q5 q6 q7 q8
    clear hB2 hF2 HB HO o0 o1 o2 o3 o4 o5 o6 o7 o8 hA
    go_wp2_with fail
    have hNw : N ≤ w.heap.size := by have := HI.out.wlo; omega
    refine (G2.out w2 (by have := HB2.out.size; omega)).mono ?_
    rintro e w3 ⟨Y, rfl, hY, hR3, hB3⟩
    have hYl := (hR3.lo Y hR3.mem).2
    have hAl := HF2.out.lt
    have hF3 : GdAt w3 A g := WsAt.other HF2.out (hB3.block A hAl)
    have HB3 := hid (HB2.out.trans (hB3.mono HB2.out.size))
    have hY0 : w.heap.size ≤ Y := Nat.le_trans HB2.out.size hY
    have hB4 : Below w3.heap.size w3 (w3.alloc (.cells #[pt A, pt Y] 82)) := (Below.refl _ _).alloc (Nat.le_refl _) _
    have HBa := HB3.out.trans (hB4.mono HB3.out.size)
    have hI4 := (HI.out.below HBa (.gu t.gus.length)).few_ (HI.out.few.mono (show k ≤ k + 1 by omega))
    have hSo : GuAt (w3.alloc (.cells #[pt A, pt Y] 82)) N (fun b => newTag own w.heap.size (.gu t.gus.length) b = .gu t.gus.length) ⟨A, Y, g, 0⟩ := by
      refine ⟨[Y], rg, WsAt.other hF3 (hB4.block A (by omega)), hR3.below hB4, hgr, by show rg.cs.length ≤ 0; omega, fun b hb => ?_, ?_, newTag_new _ _ _ _ hA0, by show N ≤ A; omega⟩
      · simp at hb; subst hb; exact newTag_new _ _ _ _ hY0
      · show A ∉ [Y]; simp; omega
    have hnw := hid (pair_new w3 (pt A) (pt Y) 82)
    have hz4 := al_size w3 (.cells #[pt A, pt Y] 82)
    have hzw := HB3.out.size
    have HNx : Hd (Nxt w (w3.alloc (.cells #[pt A, pt Y] 82)) own (newTag own w.heap.size (.gu t.gus.length))) := hid (Nxt.of_below _ _ HBa (newTag_old _ _ _))
    have c0 := ((HI.out.below HB3.out .free).wb (fun hh => hh)).cell 2
    have hv0 : t.vs[2]? = some t.v2 := rfl
    rw [hv0] at c0
    have HI2 := hid hI4
    have HSm := hid hSo
    have hWne : t.v2.ownBlock ≠ some Wb := fun e => by have := (hI4.r2.tag Wb e).1; rw [hI4.wbt] at this; cases this
    have hls := HI.out.few.gus
    clear hI4 hSo hv0 hR3 hB3 hB4 HBa HB3 HB2 HF2 hF3 G1 G2 q0 q1 q2 q3 q4 q5 q6 q7 q8 hA0 hY0 hY
    unfold pt at hnw HI2 HSm HNx hz4
    go_wp2_with fail
    refine (num_any 0 _).mono ?_
    rintro e w4 ⟨rfl, hw⟩
    have hw4 := hw.symm
    subst hw4
    clear hw
    go_wp2_with fail
    refine (num_any 0 _).mono ?_
    rintro e w4 ⟨rfl, hw⟩
    have hw4 := hw.symm
    subst hw4
    clear hw
    go_wp2_with (at_builtin; refine wpList_append_own_at _ rfl _ _ 29 rfl N 82 i0 (.agg #[.pointer none, .pointer none]) 2 16 Tryz.underlying29 hi hz0 hz1 hz2 rfl (by decide) t.v2 t.gus.length _ rfl (HI2.out.r2.own_ (fun hh => hh)) ⟨w3.heap.size, 0, none⟩ 1 1 [.pointer (some ⟨A, 0, none⟩), .pointer (some ⟨Y, 0, none⟩)] rfl rfl hnw.out (fun u hu => by simp at hu; rcases hu with hu | hu <;> (subst hu; rfl)) (by unfold maxLen; omega) (by omega) (by omega) ?_)
    intro v' w5 hown hgr' hiff hat
    have hI3 := HI2.out.app_gu HSm.out hown hgr' (by rw [hz4]; exact hat) (by omega) (Nat.zero_le _)
    have hW5 := (HI2.out.wb (fun hh => hh)).other (hgr'.block Wb HI2.out.wlo.2 (fun e => hWne e.symm))
    have c05 := hW5.cell 2
    have f05 := hW5.frozen 2
    obtain ⟨a1, n1, hv1⟩ := owns_slice hown
    have HI3 := hid hI3
    clear hown hgr' hiff hat hW5 hI3 hnw HI2 HSm c0 hWne
    have hv0 : t.vs[2]? = some t.v2 := rfl
    rw [hv0] at c05
    clear hv0
    subst hv1
    go_wp2
    go_ret
    obtain ⟨own', r1, r2⟩ := HI3.out
    exact ⟨rfl, own', _, r1, HNx.out.trans r2⟩
  · have G1 := hid g1
    have G2 := hid g2
    clear g1 g2
    go_enter Tryz.func13, Tryz.ntmps13
    go_wp2_with fail
    clear how
    refine (G1.out w1).mono ?_
    rintro e w2 ⟨rfl, hB2⟩
    have hO2 := HO.out.below hB2
    obtain ⟨q0, q1, q2, q3, q4, q5, q6, q7, q8, _⟩ := hO2
    have HB2 := hid (HB.out.trans (hB2.mono HB.out.size))
    dsimp only at q0 q1 q2 q3 q4 q5 q6 q7 q8
    clear hB2 HB HO o0 o1 o2 o3 o4 o5 o6 o7 o8
    go_wp2_with fail
    refine (G2.out w2).mono ?_
    rintro e w3 ⟨rfl, hB3⟩
    have HB3 := hid (HB2.out.trans (hB3.mono HB2.out.size))
    clear hB3 HB2 G1 G2 q0 q1 q2 q3 q4 q5 q6 q7 q8
    go_wp2_with fail
    refine (num_any 2 _).mono ?_
    rintro e w4 ⟨rfl, hw⟩
    have hw4 := hw.symm
    subst hw4
    clear hw
    go_wp2_with fail
    refine (num_any 2 _).mono ?_
    rintro e w4 ⟨rfl, hw⟩
    have hw4 := hw.symm
    subst hw4
    clear hw
    go_wp2
    go_ret
    exact ⟨rfl, _, t, (HI.out.below HB3.out .free).few_ (HI.out.few.mono (by omega)), Nxt.of_below _ _ HB3.out (newTag_old _ _ _)⟩
end Go.Proofs.YtbifmhbkmnofiaaGreat
