import Derived.Test.YtbifmhbkmnofiaaGreatMz
import Derived.Test.YtbifmhbkmnofiaaGreatMo
namespace Go.Proofs.YtbifmhbkmnofiaaGreat
open Go.RowKit
set_option linter.unusedVariables false
set_option linter.unusedSimpArgs false
/-- a well: kind, name, guard, the samples that are kept, its generator -/
structure Wel where
  k : Int
  nm : ByteArray
  g : Gd
  kept : List Int
  s : Option Fnt
/-- the well's generator lies at two blocks of the well's own -/
def SrcAt (w : World) (bs : List Nat) (A : Nat) (ob : Option Nat) (pv : Value) : Option Fnt → Prop
  | none => pv = .pointer none
  | some f => ∃ SA SB, pv = .pointer (some ⟨SA, 0, none⟩) ∧ FtAt w SA SB f ∧ SA ∈ bs ∧ SB ∈ bs ∧ SA ≠ A ∧ SB ≠ A ∧ ob ≠ some SA ∧ ob ≠ some SB
/-- a well lies in block A, and what is its own in the blocks bs, none below N -/
structure WlAt (w : World) (N A : Nat) (bs : List Nat) (x : Wel) (sv pv : Value) : Prop where
  gw : GwAt w A (.int .i64 x.k) (.string x.nm) sv pv x.g
  own : OwnB w N sv x.kept
  ob : ∀ b, sv.ownBlock = some b → b ∈ bs ∧ b ≠ A
  src : SrcAt w bs A sv.ownBlock pv x.s
  mem : A ∈ bs
  lo : ∀ b ∈ bs, N ≤ b ∧ b < w.heap.size
def WellAt (w : World) (N A : Nat) (bs : List Nat) (x : Wel) : Prop := ∃ sv pv, WlAt w N A bs x sv pv
theorem SrcAt.other {w w' : World} {bs : List Nat} {A : Nat} {ob : Option Nat} {pv : Value} {s : Option Fnt} (h : SrcAt w bs A ob pv s) (he : ∀ b ∈ bs, b ≠ A → w'.heap[b]? = w.heap[b]?) : SrcAt w' bs A ob pv s := by
  cases s with
  | none => exact h
  | some f =>
    obtain ⟨SA, SB, h1, h2, h3, h4, h5, h6, h7, h8⟩ := h
    exact ⟨SA, SB, h1, h2.other (he SA h3 h5) (he SB h4 h6), h3, h4, h5, h6, h7, h8⟩
theorem SrcAt.mono {w : World} {bs bs' : List Nat} {A : Nat} {ob ob' : Option Nat} {pv : Value} {s : Option Fnt} (h : SrcAt w bs A ob pv s) (he : ∀ b ∈ bs, b ∈ bs') (ho : ob' = ob ∨ ∀ b, ob' = some b → w.heap.size ≤ b) : SrcAt w bs' A ob' pv s := by
  cases s with
  | none => exact h
  | some f =>
    obtain ⟨SA, SB, h1, h2, h3, h4, h5, h6, h7, h8⟩ := h
    have hl := h2.lt
    have hl2 := h2.gen.lt
    refine ⟨SA, SB, h1, h2, he _ h3, he _ h4, h5, h6, ?_, ?_⟩
    · rcases ho with rfl | ho
      · exact h7
      · intro e; have := ho _ e; omega
    · rcases ho with rfl | ho
      · exact h8
      · intro e; have := ho _ e; omega
theorem WellAt.other {w w' : World} {N A : Nat} {bs : List Nat} {x : Wel} (h : WellAt w N A bs x) (hs : w.heap.size ≤ w'.heap.size) (he : ∀ b ∈ bs, w'.heap[b]? = w.heap[b]?) : WellAt w' N A bs x := by
  obtain ⟨sv, pv, h⟩ := h
  exact ⟨sv, pv, h.gw.other (he A h.mem), h.own.other (fun b hb => he b (h.ob b hb).1), h.ob, h.src.other (fun b hb _ => he b hb), h.mem, fun b hb => ⟨(h.lo b hb).1, by have := (h.lo b hb).2; omega⟩⟩
theorem WellAt.below {w w' : World} {N A : Nat} {bs : List Nat} {x : Wel} (h : WellAt w N A bs x) (hb : Below w.heap.size w w') : WellAt w' N A bs x :=
  h.other hb.size (fun b hm => by obtain ⟨sv, pv, h⟩ := h; exact hb.block b (h.lo b hm).2)
/-- a well's step: it may take new blocks, and turns none but its own -/
structure Turns (w w' : World) (bs bs' : List Nat) : Prop where
  fr : Fr (fun k => k ∈ bs) w w'
  grow : ∀ b ∈ bs', b ∈ bs ∨ w.heap.size ≤ b
set_option maxRecDepth 20000 in
set_option maxHeartbeats 1000000 in
theorem open_yes (k st wi sk : Int) (nm : ByteArray) (N : Nat) (w : World) (hk : k = 1 ∨ k = 2) (h : 2 ≤ st ∧ st ≤ 50 ∧ 2 ≤ wi ∧ wi ≤ 50 ∧ 2 ≤ sk ∧ sk ≤ wi) (hn : nm.size ≤ 64) (hN : N ≤ w.heap.size) :
    Calls Tryz.prog 42 #[.int .i64 k, .agg #[.int .i64 st, .int .i64 wi, .int .i64 sk], .string nm] w fun e w' => ∃ A, e = .returned (.tuple #[.pointer (some ⟨A, 0, none⟩), .int .i64 0]) ∧ w.heap.size ≤ A ∧ WellAt w' N A [A] ⟨k, nm, ⟨st, wi, sk, W0, false⟩, [], none⟩ ∧ Below w.heap.size w w' := by
  have hn' : (nm.size : Int) ≤ 64 := by omega
  have U : ∀ w, Calls Tryz.prog 59 #[.int .i64 k] w fun e w' => (∃ t B, e = .returned (.iface t (.pointer (some ⟨B, 0, none⟩)))) ∧ Below w.heap.size w w' := by
    intro w
    rcases hk with rfl | rfl
    · refine (unseeded_m w).mono ?_
      rintro e w' ⟨rfl, _, hB⟩
      exact ⟨⟨_, _, rfl⟩, hB⟩
    · refine (unseeded_s w).mono ?_
      rintro e w' ⟨rfl, _, hB⟩
      exact ⟨⟨_, _, rfl⟩, hB⟩
  clear hk
  have hb1 := al_new w (.cells #[.int .i64 st, .int .i64 wi, .int .i64 sk] 36)
  have hB1 : Below w.heap.size w (w.alloc (.cells #[.int .i64 st, .int .i64 wi, .int .i64 sk] 36)) := (Below.refl _ _).alloc (Nat.le_refl _) _
  have HB1 := hid hB1
  have Hb1 := hid hb1
  clear hb1 hB1
  go_enter Tryz.func42, Tryz.ntmps42
  go_wp2_with fail
  have hz1 := al_size w (.cells #[.int .i64 st, .int .i64 wi, .int .i64 sk] 36)
  generalize (w.alloc (.cells #[.int .i64 st, .int .i64 wi, .int .i64 sk] 36)) = w1 at *
  refine (U w1).mono ?_
  rintro e w2 ⟨⟨t, B, rfl⟩, hB2⟩
  have hlim := (hB2.block w.heap.size (by omega)).trans Hb1.out
  have d0 := cell_of_row _ _ 0 _ _ _ hlim
  have d1 := cell_of_row _ _ 1 _ _ _ hlim
  have d2 := cell_of_row _ _ 2 _ _ _ hlim
  simp only [List.getElem?_toArray, List.getElem?_cons_zero, List.getElem?_cons_succ] at d0 d1 d2
  have Hlim := hid hlim
  have HB2 := hid (HB1.out.trans (hB2.mono HB1.out.size))
  have hz2 := hB2.size
  clear hlim hB2 HB1 Hb1 U
  go_wp2_with fail
  refine (mayWatch_yes st wi sk _ h).mono ?_
  rintro e w3 ⟨rfl, hB3⟩
  have hlim := (hB3.block w.heap.size (by omega)).trans Hlim.out
  have e0 := cell_of_row _ _ 0 _ _ _ hlim
  have e1 := cell_of_row _ _ 1 _ _ _ hlim
  have e2 := cell_of_row _ _ 2 _ _ _ hlim
  simp only [List.getElem?_toArray, List.getElem?_cons_zero, List.getElem?_cons_succ] at e0 e1 e2
  have HB3 := hid (HB2.out.trans (hB3.mono HB2.out.size))
  clear hlim hB3 HB2 Hlim h d0 d1 d2
  go_wp2
  go_ret2
  have hz3 := HB3.out.size
  refine ⟨w3.heap.size, rfl, hz3, ⟨_, _, ⟨⟨_, al_new _ _⟩, World.ownsRow_nil _ _ _ _, fun b hb => by simp [Value.ownBlock] at hb, rfl, by simp, fun b hb => ?_⟩⟩, HB3.out.alloc hz3 _⟩
  simp at hb
  subst hb
  exact ⟨by omega, by rw [al_size]; omega⟩
set_option maxHeartbeats 400000 in
theorem open_kind (k : Int) (vw : Value) (st wi sk : Int) (nm : ByteArray) (w : World) (h1 : k ≠ 1) (h2 : k ≠ 2) (hv : vw = .agg #[.int .i64 st, .int .i64 wi, .int .i64 sk]) :
    Calls Tryz.prog 42 #[.int .i64 k, vw, .string nm] w fun e w' => e = .returned (.tuple #[.pointer none, .int .i64 1]) ∧ Below w.heap.size w w' := by
  subst hv
  have HB1 := hid ((Below.refl w.heap.size w).alloc (Nat.le_refl _) (.cells #[.int .i64 st, .int .i64 wi, .int .i64 sk] 36))
  go_enter Tryz.func42, Tryz.ntmps42
  go_wp2_with fail
  generalize (w.alloc (.cells #[.int .i64 st, .int .i64 wi, .int .i64 sk] 36)) = w1 at *
  refine (unseeded_no k w1 h1 h2).mono ?_
  rintro e w2 ⟨rfl, rfl⟩
  go_wp2
  go_ret2
  exact ⟨rfl, HB1.out⟩
set_option maxHeartbeats 400000 in
theorem samples_any (N A : Nat) (bs : List Nat) (x : Wel) (w : World) (h : WellAt w N A bs x) :
    Calls Tryz.prog 48 #[.pointer (some ⟨A, 0, none⟩)] w fun e w' => e = .returned (.int .i64 x.kept.length) ∧ w' = w := by
  obtain ⟨sv, pv, h⟩ := h
  obtain ⟨_, _, c11, _⟩ := h.gw.rest
  obtain ⟨a, cap, rfl, _, hm⟩ := h.own.slice
  clear h
  generalize x.kept.length = n at *
  go_enter Tryz.func48, Tryz.ntmps48
  go_wp2
  go_ret
  exact ⟨rfl, rfl⟩
end Go.Proofs.YtbifmhbkmnofiaaGreat
namespace Go.Proofs.YtbifmhbkmnofiaaGreat
open Go.RowKit
set_option linter.unusedVariables false
set_option linter.unusedSimpArgs false
/-- limits that may be, and a watch that keeps to them -/
structure Gd.ok (g : Gd) : Prop where
  l : 2 ≤ g.st ∧ g.st ≤ 50 ∧ 2 ≤ g.wi ∧ g.wi ≤ 50 ∧ 2 ≤ g.sk ∧ g.sk ≤ g.wi
  x : g.x.ok g.st g.wi g.sk
theorem Gd.ok_new {st wi sk : Int} (h : 2 ≤ st ∧ st ≤ 50 ∧ 2 ≤ wi ∧ wi ≤ 50 ∧ 2 ≤ sk ∧ sk ≤ wi) (b : Bool) : (⟨st, wi, sk, W0, b⟩ : Gd).ok := ⟨h, W0_ok h.1 h.2.2.1 h.2.2.2.2.1⟩
/-- the guard's answer: all right, and not broken; or one of the two errors, and broken -/
theorem fedG_form {g : Gd} (h : g.ok) (xs : List Int) : (fedG g xs).2.2.ok ∧ (((fedG g xs).2.1 = 0 ∧ (fedG g xs).2.2.br = false ∧ (fedG g xs).1 = xs.length) ∨ (((fedG g xs).2.1 = 4 ∨ (fedG g xs).2.1 = 5) ∧ (fedG g xs).2.2.br = true)) := by
  rcases hT : takeW g.st g.wi g.sk g.x xs 0 with ⟨y, _ | ⟨b, k⟩⟩
  · have e : fedG g xs = ((xs.length : Int), 0, ⟨g.st, g.wi, g.sk, y, false⟩) := by unfold fedG; rw [hT]
    rw [e]
    exact ⟨⟨h.l, takeW_ok h.l.2.2.1 h.x hT⟩, .inl ⟨rfl, rfl, rfl⟩⟩
  · cases b
    · have e : fedG g xs = ((k : Int), 4, ⟨g.st, g.wi, g.sk, W0, true⟩) := by unfold fedG; rw [hT]
      rw [e]
      exact ⟨Gd.ok_new h.l true, .inr ⟨.inl rfl, rfl⟩⟩
    · have e : fedG g xs = ((k : Int), 5, ⟨g.st, g.wi, g.sk, W0, true⟩) := by unfold fedG; rw [hT]
      rw [e]
      exact ⟨Gd.ok_new h.l true, .inr ⟨.inr rfl, rfl⟩⟩
/-- what a well's Feed answers, and the well behind it -/
def pourW (x : Wel) (ys : List Int) : Int × Int × Wel :=
  if x.g.br = true then (0, 6, ⟨x.k, x.nm, x.g, [], x.s⟩)
  else if 200 < ys.length then (0, 2, x)
  else ((fedG x.g ys).1, (fedG x.g ys).2.1, ⟨x.k, x.nm, (fedG x.g ys).2.2, if (fedG x.g ys).2.1 = 0 then keepL (x.kept ++ ys) else [], x.s⟩)
theorem add_blk (a : Addr) (j : Nat) : (a.add j).block = a.block := by
  unfold Addr.add
  split <;> rfl
theorem Src.other {w w' : World} {v : Value} {xs : List Int} (h : Src w v xs) (he : ∀ ad n c, v = .slice (some ad) n c → 0 < n → w'.heap[ad.block]? = w.heap[ad.block]?) : Src w' v xs := by
  rcases h with h | ⟨ad, cap, rfl, hc⟩
  · exact Or.inl h
  · refine Or.inr ⟨ad, cap, rfl, fun j u hu => ?_⟩
    have hp : 0 < xs.length := by have := (List.getElem?_eq_some_iff.1 hu).1; simp at this; omega
    rw [World.cell?_of_block (w := w) (by rw [add_blk]; exact he _ _ _ rfl hp)]
    exact hc j u hu
set_option maxRecDepth 20000 in
set_option maxHeartbeats 1000000 in
theorem wfeed_dead (N A : Nat) (bs : List Nat) (x : Wel) (a : Option Addr) (n c : Nat) (w : World) (h : WellAt w N A bs x) (hb : x.g.br = true) :
    Calls Tryz.prog 44 #[.pointer (some ⟨A, 0, none⟩), .slice a n c] w fun e w' => e = .returned (.tuple #[.int .i64 0, .int .i64 6]) ∧ WellAt w' N A bs ⟨x.k, x.nm, x.g, [], x.s⟩ ∧ Turns w w' bs bs := by
  obtain ⟨sv, pv, h⟩ := h
  have G := hid h.gw
  obtain ⟨_, _, _, _, _, _, _, _, c10⟩ := h.gw.lims
  obtain ⟨_, _, c11, _⟩ := h.gw.rest
  have f11 := h.gw.frozen 11
  obtain ⟨sa, scap, hsv, _, _⟩ := h.own.slice
  have Hend : Hd (WellAt (w.setCell ⟨A, 11, none⟩ (.slice none 0 0)) N A bs ⟨x.k, x.nm, x.g, [], x.s⟩ ∧ Turns w (w.setCell ⟨A, 11, none⟩ (.slice none 0 0)) bs bs) := by
    have hF := (Ex.refl A w).setCell 11 (.slice none 0 0)
    refine hid ⟨⟨_, _, h.gw.set0 _, World.ownsRow_nil _ _ _ _, fun b hb => by simp [Value.ownBlock] at hb, (h.src.other (fun b hb hA => hF.block b (h.lo b hb).2 hA)).mono (fun b hb => hb) (.inr (fun b hb => by simp [Value.ownBlock] at hb)), h.mem, fun b hb => ⟨(h.lo b hb).1, by have := (h.lo b hb).2; have := hF.size; omega⟩⟩, (Fr.of_ex hF).mono (fun k _ e => by rw [e]; exact h.mem), fun b hb => .inl hb⟩
  rw [hb] at c10
  subst hsv
  clear h
  go_enter Tryz.func44, Tryz.ntmps44
  go_wp2_with fail
  refine (wgfeed_dead x.g A a n c _ G.out hb).mono ?_
  rintro e w0 ⟨rfl, hw0⟩
  have hw1 := hw0.symm
  subst hw1
  clear hw0
  go_wp2
  go_ret2
  exact ⟨rfl, Hend.out⟩
set_option maxRecDepth 20000 in
set_option maxHeartbeats 1000000 in
theorem wfeed_many (N A : Nat) (bs : List Nat) (x : Wel) (a : Option Addr) (n c : Nat) (w : World) (h : WellAt w N A bs x) (hb : x.g.br = false) (hn : 200 < n) :
    Calls Tryz.prog 44 #[.pointer (some ⟨A, 0, none⟩), .slice a n c] w fun e w' => e = .returned (.tuple #[.int .i64 0, .int .i64 2]) ∧ w' = w := by
  obtain ⟨sv, pv, h⟩ := h
  have G := hid h.gw
  obtain ⟨_, _, _, _, _, _, _, _, c10⟩ := h.gw.lims
  rw [hb] at c10
  clear h
  go_enter Tryz.func44, Tryz.ntmps44
  go_wp2_with fail
  refine (wgfeed_many x.g A a n c _ G.out hb hn).mono ?_
  rintro e w0 ⟨rfl, hw0⟩
  have hw1 := hw0.symm
  subst hw1
  clear hw0
  go_wp2
  go_ret2
  exact ⟨rfl, rfl⟩
set_option maxRecDepth 20000 in
set_option maxHeartbeats 1000000 in
theorem wfeed_take (N A : Nat) (bs : List Nat) (x : Wel) (v : Value) (ys : List Int) (w : World) (h : WellAt w N A bs x) (hb : x.g.br = false) (hv : Src w v ys) (hvB : ∀ ad n c, v = .slice (some ad) n c → 0 < n → ad.block ≠ A) (hl : ys.length ≤ 200) (hx : x.g.ok) (hk : x.kept.length ≤ 200) (hN : N ≤ w.heap.size) :
    Calls Tryz.prog 44 #[.pointer (some ⟨A, 0, none⟩), v] w fun e w' => e = .returned (.tuple #[.int .i64 (fedG x.g ys).1, .int .i64 (fedG x.g ys).2.1]) ∧ ∃ bs', WellAt w' N A bs' ⟨x.k, x.nm, (fedG x.g ys).2.2, if (fedG x.g ys).2.1 = 0 then keepL (x.kept ++ ys) else [], x.s⟩ ∧ Turns w w' bs bs' := by
  obtain ⟨sv, pv, h⟩ := h
  have hform := fedG_form hx ys
  have T := hid (wgfeed_take x.g A v ys w h.gw hb hv.byt hvB hl hx.x hx.l.2.1 hx.l.2.2.1 hx.l.2.2.2.1 (by have := hx.l; omega))
  generalize hfe : fedG x.g ys = r at *
  obtain ⟨m, er, g'⟩ := r
  dsimp only at *
  have H := hid h
  have Hv := hid hv
  obtain ⟨a, n, c, hvs⟩ : ∃ a n c, v = .slice a n c := by
    rcases hv with ⟨_, h⟩ | ⟨ad, cp, h, _⟩
    · exact ⟨_, _, _, h⟩
    · exact ⟨_, _, _, h⟩
  have HvB := hid hvB
  clear h hv hvB hfe
  subst hvs
  go_enter Tryz.func44, Tryz.ntmps44
  go_wp2_with fail
  refine T.out.mono ?_
  rintro e w1 ⟨rfl, hG1, hE1⟩
  have hz1 := hE1.size
  have hO1 : OwnB w1 N sv x.kept := H.out.own.other (fun b hb => hE1.block b (H.out.lo b (H.out.ob b hb).1).2 (H.out.ob b hb).2)
  have hS1 : SrcAt w1 bs A sv.ownBlock pv x.s := H.out.src.other (fun b hb hA => hE1.block b (H.out.lo b hb).2 hA)
  have hv1 : Src w1 (.slice a n c) ys := Hv.out.other (fun ad n' c' hh hp => hE1.block _ (by
    rcases Hv.out with ⟨h0, h⟩ | ⟨ad2, cp, h, hc⟩
    · rw [hh] at h; cases h
    · rw [hh] at h
      cases h
      have := hc 0 (.int .u8 (ys[0]'(by omega))) (by simp [List.getElem?_eq_getElem (show 0 < ys.length by omega)])
      have := World.block_lt_of_cell? w _ this
      rw [add_blk] at this
      exact this) (HvB.out ad n' c' hh hp))
  obtain ⟨_, _, _, _, _, _, _, _, c10⟩ := hG1.lims
  obtain ⟨_, _, c11, _⟩ := hG1.rest
  have f11 := hG1.frozen 11
  rcases hform.2 with ⟨he, hbr, hm⟩ | ⟨he, hbr⟩
  · subst he
    rw [hbr] at c10
    have K := hid (keep_any N A _ _ sv pv _ g' x.kept ys w1 hG1 hO1 (fun e => (H.out.ob A e).2 rfl) hv1 (by omega) hk hl)
    have HE1 := hid hE1
    have HS1 := hid hS1
    clear hG1 hO1 hS1 hE1 hv1 T Hv HvB c11 f11
    go_wp2_with fail
    refine K.out.mono ?_
    rintro e w2 ⟨rfl, sv2, hG2, hO2, hob2, hF2⟩
    have hz2 := hF2.size
    obtain ⟨_, _, _, _, _, _, _, _, d10⟩ := hG2.lims
    rw [hbr] at d10
    have Hend : Hd (∃ bs', WellAt w2 N A bs' ⟨x.k, x.nm, g', keepL (x.kept ++ ys), x.s⟩ ∧ Turns w w2 bs bs') := by
      have hS2 : SrcAt w2 bs A sv.ownBlock pv x.s := by
        cases hs : x.s with
        | none => have := HS1.out; rw [hs] at this; exact this
        | some f =>
          have := HS1.out
          rw [hs] at this
          obtain ⟨SA, SB, h1, h2, h3, h4, h5, h6, h7, h8⟩ := this
          exact ⟨SA, SB, h1, h2.other (hF2.block SA h2.lt (fun e => e.elim h5 (fun e => h7 e.symm))) (hF2.block SB h2.gen.lt (fun e => e.elim h6 (fun e => h8 e.symm))), h3, h4, h5, h6, h7, h8⟩
      have hFr : Fr (fun k => k ∈ bs) w w2 := ((Fr.of_ex HE1.out).mono (fun k _ e => by rw [e]; exact H.out.mem)).trans (hF2.mono (fun k _ e => e.elim (fun e => by rw [e]; exact H.out.mem) (fun e => (H.out.ob k e.symm).1)))
      rcases hob2 with e | ⟨b, e, hb⟩
      · exact hid ⟨bs, ⟨sv2, pv, hG2, hO2, fun b hb => H.out.ob b (e ▸ hb), by rw [e]; exact hS2, H.out.mem, fun b hb => ⟨(H.out.lo b hb).1, by have := (H.out.lo b hb).2; omega⟩⟩, hFr, fun b hb => .inl hb⟩
      · have hlt := (World.ownsRow.lt hO2 b e)
        have hA := (H.out.lo A H.out.mem).2
        refine hid ⟨b :: bs, ⟨sv2, pv, hG2, hO2, fun b' hb' => ?_, ?_, by simp [H.out.mem], fun b' hb' => ?_⟩, hFr, fun b' hb' => ?_⟩
        · rw [e] at hb'
          cases hb'
          exact ⟨by simp, by omega⟩
        · rw [e]
          cases hs : x.s with
          | none => rw [hs] at hS2; exact hS2
          | some f =>
            rw [hs] at hS2
            have h0 := HS1.out
            rw [hs] at h0
            obtain ⟨SA, SB, h1, h2, h3, h4, h5, h6, h7, h8⟩ := hS2
            have q1 := (H.out.lo SA h3).2
            have q2 := (H.out.lo SB h4).2
            exact ⟨SA, SB, h1, h2, by simp [h3], by simp [h4], h5, h6, fun e => by cases e; omega, fun e => by cases e; omega⟩
        · rcases List.mem_cons.1 hb' with rfl | hb'
          · exact ⟨hlt.1, hlt.2⟩
          · exact ⟨(H.out.lo b' hb').1, by have := (H.out.lo b' hb').2; omega⟩
        · rcases List.mem_cons.1 hb' with rfl | hb'
          · exact .inr (by omega)
          · exact .inl hb'
    clear hG2 hO2 hob2 hF2 K
    go_wp2
    go_ret2
    exact ⟨rfl, Hend.out⟩
  · rw [hbr] at c10
    obtain ⟨sa, scap, hsv, _, _⟩ := hO1.slice
    have hne : er ≠ 0 := by omega
    have hF := (Ex.refl A w1).setCell 11 (.slice none 0 0)
    have Hend : Hd (WellAt (w1.setCell ⟨A, 11, none⟩ (.slice none 0 0)) N A bs ⟨x.k, x.nm, g', [], x.s⟩ ∧ Turns w (w1.setCell ⟨A, 11, none⟩ (.slice none 0 0)) bs bs) := by
      refine hid ⟨⟨_, _, hG1.set0 _, World.ownsRow_nil _ _ _ _, fun b hb => by simp [Value.ownBlock] at hb, (hS1.other (fun b hb hA => hF.block b (by have := (H.out.lo b hb).2; omega) hA)).mono (fun b hb => hb) (.inr (fun b hb => by simp [Value.ownBlock] at hb)), H.out.mem, fun b hb => ⟨(H.out.lo b hb).1, by have := (H.out.lo b hb).2; have := hF.size; omega⟩⟩, ((Fr.of_ex hE1).trans (Fr.of_ex hF)).mono (fun k _ e => by rw [e]; exact H.out.mem), fun b hb => .inl hb⟩
    clear hG1 hO1 hS1 hE1 hv1 T Hv HvB hF
    subst hsv
    have hne' : (er == 0) = false := by simpa using hne
    go_wp2
    go_ret2
    exact ⟨rfl, bs, Hend.out⟩
end Go.Proofs.YtbifmhbkmnofiaaGreat
