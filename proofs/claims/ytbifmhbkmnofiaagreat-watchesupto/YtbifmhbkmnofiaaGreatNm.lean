import Derived.Test.YtbifmhbkmnofiaaGreatNl
import Derived.Deep.DeepCutAuto
namespace Go.Proofs.YtbifmhbkmnofiaaGreat
open Go.RowKit
set_option linter.unusedVariables false
set_option linter.unusedSimpArgs false
set_option maxRecDepth 20000 in
set_option maxHeartbeats 1000000 in
theorem open_arg (k st wi sk : Int) (nm : ByteArray) (w : World) (hk : k = 1 ∨ k = 2) (h : ¬ (2 ≤ st ∧ st ≤ 50 ∧ 2 ≤ wi ∧ wi ≤ 50 ∧ 2 ≤ sk ∧ sk ≤ wi) ∨ 64 < nm.size) (hn : nm.size ≤ 9223372036854775807) :
    Calls Tryz.prog 42 #[.int .i64 k, .agg #[.int .i64 st, .int .i64 wi, .int .i64 sk], .string nm] w fun e w' => e = .returned (.tuple #[.pointer none, .int .i64 2]) ∧ Below w.heap.size w w' := by
  have U : ∀ w, Calls Tryz.prog 59 #[.int .i64 k] w fun e w' => (∃ t B, e = .returned (.iface t (.pointer (some ⟨B, 0, none⟩)))) ∧ Below w.heap.size w w' := by
    intro w
    rcases hk with rfl | rfl
    · refine (unseeded_m w).mono ?_
      rintro e w' ⟨rfl, _, hB⟩
      exact ⟨⟨_, _, rfl⟩, hB⟩
    · refine (unseeded_s w).mono ?_
      rintro e w' ⟨rfl, _, hB⟩
      exact ⟨⟨_, _, rfl⟩, hB⟩
  clear hk
  have hb1 := al_new w (.cells #[.int .i64 st, .int .i64 wi, .int .i64 sk] 36)
  have hB1 : Below w.heap.size w (w.alloc (.cells #[.int .i64 st, .int .i64 wi, .int .i64 sk] 36)) := (Below.refl _ _).alloc (Nat.le_refl _) _
  have HB1 := hid hB1
  have Hb1 := hid hb1
  clear hb1 hB1
  go_enter Tryz.func42, Tryz.ntmps42
  go_wp2_with fail
  have hz1 := al_size w (.cells #[.int .i64 st, .int .i64 wi, .int .i64 sk] 36)
  generalize (w.alloc (.cells #[.int .i64 st, .int .i64 wi, .int .i64 sk] 36)) = w1 at *
  refine (U w1).mono ?_
  rintro e w2 ⟨⟨t, B, rfl⟩, hB2⟩
  have hlim := (hB2.block w.heap.size (by omega)).trans Hb1.out
  have d0 := cell_of_row _ _ 0 _ _ _ hlim
  have d1 := cell_of_row _ _ 1 _ _ _ hlim
  have d2 := cell_of_row _ _ 2 _ _ _ hlim
  simp only [List.getElem?_toArray, List.getElem?_cons_zero, List.getElem?_cons_succ] at d0 d1 d2
  have Hlim := hid hlim
  have HB2 := hid (HB1.out.trans (hB2.mono HB1.out.size))
  have hz2 := hB2.size
  clear hlim hB2 HB1 Hb1 U
  by_cases hg : 2 ≤ st ∧ st ≤ 50 ∧ 2 ≤ wi ∧ wi ≤ 50 ∧ 2 ≤ sk ∧ sk ≤ wi
  · have hn2 : 64 < nm.size := h.resolve_left (fun hh => hh hg)
    have hn3 : (64 : Int) < nm.size := by omega
    clear h
    go_wp2_with fail
    refine (mayWatch_yes st wi sk _ hg).mono ?_
    rintro e w3 ⟨rfl, hB3⟩
    have HB3 := hid (HB2.out.trans (hB3.mono HB2.out.size))
    clear hB3 HB2 Hlim hg d0 d1 d2
    go_wp2
    go_ret2
    exact ⟨rfl, HB3.out⟩
  · clear h
    go_wp2_with fail
    refine (mayWatch_no st wi sk _ hg).mono ?_
    rintro e w3 ⟨rfl, hB3⟩
    have HB3 := hid (HB2.out.trans (hB3.mono HB2.out.size))
    clear hB3 HB2 Hlim hg d0 d1 d2
    go_wp2
    go_ret2
    exact ⟨rfl, HB3.out⟩
set_option maxRecDepth 20000 in
set_option maxHeartbeats 1000000 in
theorem wdraw_seed2 (n : Nat) (ex : ByteArray) (N A : Nat) (bs : List Nat) (x : Wel) (f : Fnt) (w : World) (h : WellAt w N A bs x) (hb : x.g.br = false) (hx : ex.size ≤ 64) (hn : n ≤ 200) (hs : needs x = true) (hk : 32 ≤ x.kept.length) (hk2 : x.kept.length ≤ 200) (hki : x.k = 1 ∨ x.k = 2) (hnm : x.nm.size ≤ 64) (hf : seedW x = f) (hr : f.r ≤ 8) :
    Calls Tryz.prog 46 #[.pointer (some ⟨A, 0, none⟩), .int .i64 n, .string ex] w fun en w' => ∃ gb, en = .returned (.tuple #[.slice (some ⟨gb, 0, none⟩) n n, .int .i64 0]) ∧ w.heap.size ≤ gb ∧ w'.heap[gb]? = some (.cells (ints .u8 (bytesF f.g n (bts ex))) 5 (0, 0)) ∧ ∃ bs', gb ∉ bs' ∧ WellAt w' N A bs' ⟨x.k, x.nm, x.g, [], some ⟨behindF f.g f.r n (bts ex), f.r + 1⟩⟩ ∧ Turns w w' bs bs' := by
  have hm := mayR_yes (n := (n : Int)) (x := ex) (by omega) (by omega) hx
  have W := hid (wseed_any N A bs x w h hki hnm hk2)
  rw [hf] at W
  clear hf
  obtain ⟨k, nm, g, kept, s⟩ := x
  obtain ⟨sv, pv, h⟩ := h
  obtain ⟨_, _, _, _, _, _, _, _, c10⟩ := h.gw.lims
  obtain ⟨_, _, c11, c12⟩ := h.gw.rest
  obtain ⟨sa, scap, hsv, _, _⟩ := h.own.slice
  dsimp only at *
  rw [hb] at c10
  subst hsv
  have hk' : ¬ (kept.length : Int) < 32 := by omega
  cases s with
  | none =>
    obtain rfl : pv = .pointer none := h.src
    clear h
    go_enter Tryz.func46, Tryz.ntmps46
    go_wp2_with fail
    refine (mayRead_any (n : Int) ex _ (by omega)).mono ?_
    rintro en w0 ⟨rfl, hw0⟩
    have hw1 := hw0.symm
    subst hw1
    clear hw0
    rw [hm]
    go_wp2_with fail
    refine W.out.mono ?_
    rintro en w1 ⟨rfl, bs1, ⟨sv1, pv1, h1⟩, hT1⟩
    obtain ⟨SA, SB, hpv, hF, m1, m2, m3, m4, m5, m6⟩ := h1.src
    have hs1 := h1.src
    subst hpv
    obtain ⟨_, _, d11, d12⟩ := h1.gw.rest
    have R := hid (read_any f n ex SA SB w1 hF hx hn hr)
    have H := hid h1
    have Hs := hid hs1
    have HT := hid hT1
    have Hlo := hid (fun b hb => (h1.lo b hb).2)
    clear h1 hs1 hF hT1 W
    go_wp2_with fail
    refine R.out.mono ?_
    rintro en w2 ⟨gb, rfl, hgb, hr1, hF1, hE1⟩
    obtain ⟨q1, q2⟩ := H.out.read Hs.out m2 m4 m6 hF1 hE1
    have Hq1 := hid q1
    have Hq2 := hid q2
    have Hr1 := hid hr1
    clear hF1 hE1 hr1 R H Hs q1 q2
    go_wp2
    go_ret2
    have hz := HT.out.fr.size
    exact ⟨gb, rfl, by omega, Hr1.out, bs1, fun hm => by have := Hlo.out gb hm; omega, Hq1.out, ⟨⟨Hq2.out.fr.os.trans HT.out.fr.os, Hq2.out.fr.tape.trans HT.out.fr.tape, Hq2.out.fr.output.trans HT.out.fr.output, Nat.le_trans HT.out.fr.size Hq2.out.fr.size, fun b hb hnb => (Hq2.out.fr.block b (by omega) (fun hh => (HT.out.grow b hh).elim hnb (fun hh => by omega))).trans (HT.out.fr.block b hb hnb)⟩, HT.out.grow⟩⟩
  | some f0 =>
    obtain ⟨SA0, SB0, hpv, hF0, _⟩ := h.src
    subst hpv
    have hr0 : 8 < f0.r := of_decide_eq_true hs
    have HF0 := hid hF0
    clear h hF0
    go_enter Tryz.func46, Tryz.ntmps46
    go_wp2_with fail
    refine (mayRead_any (n : Int) ex _ (by omega)).mono ?_
    rintro en w0 ⟨rfl, hw0⟩
    have hw1 := hw0.symm
    subst hw1
    clear hw0
    rw [hm]
    go_wp2_with fail
    refine (spent_any f0 SA0 SB0 _ HF0.out).mono ?_
    rintro en w0 ⟨rfl, hw0⟩
    have hw1 := hw0.symm
    subst hw1
    clear hw0
    rw [decide_eq_true hr0]
    go_wp2_with fail
    refine W.out.mono ?_
    rintro en w1 ⟨rfl, bs1, ⟨sv1, pv1, h1⟩, hT1⟩
    obtain ⟨SA, SB, hpv, hF, m1, m2, m3, m4, m5, m6⟩ := h1.src
    have hs1 := h1.src
    subst hpv
    obtain ⟨_, _, d11, d12⟩ := h1.gw.rest
    have R := hid (read_any f n ex SA SB w1 hF hx hn hr)
    have H := hid h1
    have Hs := hid hs1
    have HT := hid hT1
    have Hlo := hid (fun b hb => (h1.lo b hb).2)
    clear h1 hs1 hF hT1 W
    go_wp2_with fail
    refine R.out.mono ?_
    rintro en w2 ⟨gb, rfl, hgb, hr1, hF1, hE1⟩
    obtain ⟨q1, q2⟩ := H.out.read Hs.out m2 m4 m6 hF1 hE1
    have Hq1 := hid q1
    have Hq2 := hid q2
    have Hr1 := hid hr1
    clear hF1 hE1 hr1 R H Hs q1 q2
    go_wp2
    go_ret2
    have hz := HT.out.fr.size
    exact ⟨gb, rfl, by omega, Hr1.out, bs1, fun hm => by have := Hlo.out gb hm; omega, Hq1.out, ⟨⟨Hq2.out.fr.os.trans HT.out.fr.os, Hq2.out.fr.tape.trans HT.out.fr.tape, Hq2.out.fr.output.trans HT.out.fr.output, Nat.le_trans HT.out.fr.size Hq2.out.fr.size, fun b hb hnb => (Hq2.out.fr.block b (by omega) (fun hh => (HT.out.grow b hh).elim hnb (fun hh => by omega))).trans (HT.out.fr.block b hb hnb)⟩, HT.out.grow⟩⟩
/-- a draw that gives bytes -/
theorem wdraw_any2 (n : Nat) (ex : ByteArray) (N A : Nat) (bs : List Nat) (x : Wel) (f : Fnt) (w : World) (h : WellAt w N A bs x) (hok : x.ok) (hb : x.g.br = false) (hx : ex.size ≤ 64) (hn : n ≤ 200) (hs : needs x = true → 32 ≤ x.kept.length) (hf : readyW x = f) :
    Calls Tryz.prog 46 #[.pointer (some ⟨A, 0, none⟩), .int .i64 n, .string ex] w fun en w' => ∃ gb, en = .returned (.tuple #[.slice (some ⟨gb, 0, none⟩) n n, .int .i64 0]) ∧ w.heap.size ≤ gb ∧ w'.heap[gb]? = some (.cells (ints .u8 (bytesF f.g n (bts ex))) 5 (0, 0)) ∧ ∃ bs', gb ∉ bs' ∧ WellAt w' N A bs' ⟨x.k, x.nm, x.g, if needs x = true then [] else x.kept, some ⟨behindF f.g f.r n (bts ex), f.r + 1⟩⟩ ∧ Turns w w' bs bs' := by
  cases hne : needs x with
  | true =>
    rw [if_pos rfl]
    have e : seedW x = f := by rw [← hf]; unfold readyW; rw [if_pos hne]
    exact wdraw_seed2 n ex N A bs x f w h hb hx hn hne (hs hne) hok.kept hok.k hok.nm e (by rw [← e]; exact seedW_le x)
  | false =>
    rw [if_neg (by decide)]
    obtain ⟨k, nm, g, kept, s⟩ := x
    cases s with
    | none => exact absurd hne (by simp [needs])
    | some f0 =>
      have e : f0 = f := by rw [← hf]; unfold readyW; rw [if_neg (by rw [hne]; decide)]
      subst e
      have hr : f0.r ≤ 8 := by have := of_decide_eq_false hne; omega
      refine (wdraw_read n ex N A bs k nm g kept f0 w h hb hx hn hr).mono ?_
      rintro en w' ⟨gb, rfl, h1, h2, h3, h4⟩
      exact ⟨gb, rfl, h1, h2, bs, fun hm => by have := (h.lo gb hm).2; omega, h3, h4⟩
theorem open_gen (k st wi sk : Int) (nm : ByteArray) (N : Nat) (hn : nm.size ≤ 9223372036854775807) :
    (∃ x : Wel, x.ok ∧ (∀ w, N ≤ w.heap.size → Calls Tryz.prog 42 #[.int .i64 k, .agg #[.int .i64 st, .int .i64 wi, .int .i64 sk], .string nm] w fun e w' => ∃ A, e = .returned (.tuple #[.pointer (some ⟨A, 0, none⟩), .int .i64 0]) ∧ w.heap.size ≤ A ∧ WellAt w' N A [A] x ∧ Below w.heap.size w w') ∧ (∀ w, N ≤ w.heap.size → Calls Tryz.prog 43 #[.int .i64 k, .agg #[.int .i64 st, .int .i64 wi, .int .i64 sk], .string nm] w fun e w' => ∃ Y bs, e = .returned (.tuple #[.pointer (some ⟨Y, 0, none⟩), .int .i64 0]) ∧ (∀ b ∈ bs, w.heap.size ≤ b) ∧ RwAt w' N Y bs x 0 ∧ Below w.heap.size w w')) ∨
    (∃ er : Int, (∀ w, Calls Tryz.prog 42 #[.int .i64 k, .agg #[.int .i64 st, .int .i64 wi, .int .i64 sk], .string nm] w fun e w' => e = .returned (.tuple #[.pointer none, .int .i64 er]) ∧ Below w.heap.size w w') ∧ (∀ w, Calls Tryz.prog 43 #[.int .i64 k, .agg #[.int .i64 st, .int .i64 wi, .int .i64 sk], .string nm] w fun e w' => e = .returned (.tuple #[.pointer none, .int .i64 er]) ∧ Below w.heap.size w w')) := by
  by_cases hk : k = 1 ∨ k = 2
  · by_cases hg : (2 ≤ st ∧ st ≤ 50 ∧ 2 ≤ wi ∧ wi ≤ 50 ∧ 2 ≤ sk ∧ sk ≤ wi) ∧ nm.size ≤ 64
    · exact .inl ⟨⟨k, nm, ⟨st, wi, sk, W0, false⟩, [], none⟩, ⟨hk, hg.2, Gd.ok_new hg.1 false, by simp⟩, fun w hN => open_yes k st wi sk nm N w hk hg.1 hg.2 hN, fun w hN => ropen_yes k st wi sk nm N w hk hg.1 hg.2 hN⟩
    · have hb : ¬ (2 ≤ st ∧ st ≤ 50 ∧ 2 ≤ wi ∧ wi ≤ 50 ∧ 2 ≤ sk ∧ sk ≤ wi) ∨ 64 < nm.size := by
        by_cases h2 : nm.size ≤ 64
        · exact .inl (fun h1 => hg ⟨h1, h2⟩)
        · exact .inr (by omega)
      exact .inr ⟨2, fun w => open_arg k st wi sk nm w hk hb hn, fun w => ropen_arg k st wi sk nm w hk hb hn⟩
  · exact .inr ⟨1, fun w => open_kind k _ st wi sk nm w (fun h => hk (.inl h)) (fun h => hk (.inr h)) rfl, fun w => ropen_kind k st wi sk nm w (fun h => hk (.inl h)) (fun h => hk (.inr h))⟩
theorem rwfeed_gen (N Y : Nat) (bs : List Nat) (x : Wel) (cc : Nat) (v : Value) (ys : List Int) (w : World) (h : RwAt w N Y bs x cc) (hok : x.ok) (hv : Byt w v ys) (hyB : allB ys) (hvB : ∀ ad n c, v = .slice (some ad) n c → 0 < n → ad.block ∉ bs) (hcc : cc ≤ 35184372088832) (hN : N ≤ w.heap.size) :
    Calls Tryz.prog 45 #[.pointer (some ⟨Y, 0, none⟩), v] w fun e w' => e = .returned (.tuple #[.int .i64 (pourW x ys).1, .int .i64 (pourW x ys).2.1]) ∧ ∃ bs', RwAt w' N Y bs' (pourW x ys).2.2 (cc + 200) ∧ Turns w w' bs bs' := by
  obtain ⟨a, c, hve, _⟩ := hv.form2
  have hmono : ∀ {w : World} {x : Wel}, RwAt w N Y bs x cc → RwAt w N Y bs x (cc + 200) := fun h => by
    obtain ⟨bg, rg, GY, pv, h1, h2, h3⟩ := h
    exact ⟨bg, rg, GY, pv, h1, by omega, h3⟩
  cases hb : x.g.br with
  | true =>
    rw [pourW_dead hb]
    subst hve
    refine (rwfeed_dead N Y bs x cc a _ c w h hb).mono ?_
    rintro e w' ⟨rfl, rfl⟩
    refine ⟨rfl, bs, ?_, Turns.refl _ _⟩
    have hk : x.kept = [] := by obtain ⟨_, _, _, _, _, _, h3⟩ := h; exact h3 hb
    have hx : (⟨x.k, x.nm, x.g, [], x.s⟩ : Wel) = x := by rw [← hk]
    dsimp only
    rw [hx]
    exact hmono h
  | false =>
    by_cases hn : 200 < ys.length
    · rw [pourW_many hb hn]
      subst hve
      refine (rwfeed_many N Y bs x cc a _ c w h hb hn).mono ?_
      rintro e w' ⟨rfl, rfl⟩
      exact ⟨rfl, bs, hmono h, Turns.refl _ _⟩
    · rw [pourW_take hb (by omega)]
      exact rwfeed_take N Y bs x cc v ys w h hb hv hyB hvB (by omega) hok.kept hcc hN
theorem WellAt.okS {w : World} {N A : Nat} {bs : List Nat} {x : Wel} (h : WellAt w N A bs x) (f : Fnt) (hf : x.s = some f) : f.g.ok := by
  obtain ⟨sv, pv, h⟩ := h
  have hs := h.src
  rw [hf] at hs
  obtain ⟨_, _, _, hF, _⟩ := hs
  exact hF.ok
theorem seedW_ok {w : World} {N A : Nat} {bs : List Nat} {x : Wel} (h : WellAt w N A bs x) : (seedW x).g.ok := by
  unfold seedW
  split
  · exact seedOf_ok _ _
  · next f hf => exact reseedOf_ok (h.okS f hf) _
theorem readyW_ok {w : World} {N A : Nat} {bs : List Nat} {x : Wel} (h : WellAt w N A bs x) : (readyW x).g.ok := by
  unfold readyW
  split
  · exact seedW_ok h
  · split
    · next f hf => exact h.okS f hf
    · exact seedW_ok h
theorem draw_gen (x : Wel) (hok : x.ok) (n : Int) (ex : ByteArray) (hx : ex.size ≤ 9223372036854775807) (N A Y c : Nat) : ∃ (xs : List Int) (er : Int) (x' : Wel), xs.length ≤ 200 ∧ x'.ok ∧
    (∀ w bs, WellAt w N A bs x → Calls Tryz.prog 46 #[.pointer (some ⟨A, 0, none⟩), .int .i64 n, .string ex] w fun en w' => ∃ ao bs', en = .returned (.tuple #[.slice ao xs.length xs.length, .int .i64 er]) ∧ OutAt w' ao xs ∧ (∀ gb, ao = some ⟨gb, 0, none⟩ → w.heap.size ≤ gb ∧ gb ∉ bs') ∧ WellAt w' N A bs' x' ∧ Turns w w' bs bs') ∧
    (∀ w cs, RwAt w N Y cs x c → Calls Tryz.prog 47 #[.pointer (some ⟨Y, 0, none⟩), .int .i64 n, .string ex] w fun en w' => en = .returned (.tuple #[.string (toS xs), .int .i64 er]) ∧ ∃ cs', RwAt w' N Y cs' x' c ∧ Turns w w' cs cs') := by
  by_cases ha : n < 0 ∨ 200 < n ∨ 64 < ex.size
  · refine ⟨[], 2, x, by simp, hok, fun w bs h => (wdraw_arg n ex A w ha hx).mono ?_, fun w cs h => (rwdraw_arg n ex Y w ha hx).mono ?_⟩
    · rintro en w' ⟨rfl, rfl⟩
      exact ⟨none, bs, rfl, .inl ⟨rfl, rfl⟩, (fun gb hh => by cases hh), h, Turns.refl _ _⟩
    · rintro en w' ⟨rfl, rfl⟩
      exact ⟨rfl, cs, h, Turns.refl _ _⟩
  · obtain ⟨m, rfl⟩ : ∃ m : Nat, n = (m : Int) := ⟨n.toNat, by omega⟩
    cases hb : x.g.br with
    | true =>
      refine ⟨[], 6, x, by simp, hok, fun w bs h => (wdraw_dead m ex N A bs x w h hb (by omega) (by omega)).mono ?_, fun w cs h => (rwdraw_dead m ex N Y cs x c w h hb (by omega) (by omega)).mono ?_⟩
      · rintro en w' ⟨rfl, rfl⟩
        exact ⟨none, bs, rfl, .inl ⟨rfl, rfl⟩, (fun gb hh => by cases hh), h, Turns.refl _ _⟩
      · rintro en w' ⟨rfl, rfl⟩
        exact ⟨rfl, cs, h, Turns.refl _ _⟩
    | false =>
      by_cases hs : needs x = true ∧ x.kept.length < 32
      · refine ⟨[], 7, x, by simp, hok, fun w bs h => (wdraw_little m ex N A bs x w h hb (by omega) (by omega) hs.1 hs.2).mono ?_, fun w cs h => (rwdraw_little m ex N Y cs x c w h hb (by omega) (by omega) hs.1 hs.2).mono ?_⟩
        · rintro en w' ⟨rfl, rfl⟩
          exact ⟨none, bs, rfl, .inl ⟨rfl, rfl⟩, (fun gb hh => by cases hh), h, Turns.refl _ _⟩
        · rintro en w' ⟨rfl, rfl⟩
          exact ⟨rfl, cs, h, Turns.refl _ _⟩
      · have hs2 : needs x = true → 32 ≤ x.kept.length := fun hh => by have : ¬ x.kept.length < 32 := fun h2 => hs ⟨hh, h2⟩; omega
        have hkl : (if needs x = true then [] else x.kept).length ≤ 200 := by
          split
          · simp
          · exact hok.kept
        by_cases hgo : (readyW x).g.ok
        · have hl := bytesF_len hgo m (bts ex)
          refine ⟨bytesF (readyW x).g m (bts ex), 0, ⟨x.k, x.nm, x.g, if needs x = true then [] else x.kept, some ⟨behindF (readyW x).g (readyW x).r m (bts ex), (readyW x).r + 1⟩⟩, by omega, ⟨hok.k, hok.nm, hok.g, hkl⟩, fun w bs h => (wdraw_any2 m ex N A bs x _ w h hok hb (by omega) (by omega) hs2 rfl).mono ?_, fun w cs h => ?_⟩
          · rintro en w' ⟨gb, rfl, h1, h2, bs', h3, h4, h5⟩
            exact ⟨some ⟨gb, 0, none⟩, bs', by rw [hl], .inr ⟨gb, rfl, h2⟩, (fun g' hh => by cases hh; exact ⟨h1, h3⟩), h4, h5⟩
          · cases hne : needs x with
            | true =>
              rw [if_pos rfl]
              have e : seedW x = readyW x := by unfold readyW; rw [if_pos hne]
              exact rwdraw_seed m ex N Y cs x (readyW x) c w h hb (by omega) (by omega) hne (hs2 hne) hok.kept hok.k hok.nm e (by rw [← e]; exact seedW_le x)
            | false =>
              rw [if_neg (by decide)]
              obtain ⟨k, nm, g, kept, s⟩ := x
              cases s with
              | none => exact absurd hne (by simp [needs])
              | some f0 =>
                have e : readyW ⟨k, nm, g, kept, some f0⟩ = f0 := by unfold readyW; rw [if_neg (by rw [hne]; decide)]
                rw [e]
                have hr : f0.r ≤ 8 := by have := of_decide_eq_false hne; omega
                refine (rwdraw_read m ex N Y cs k nm g kept f0 c w h hb (by omega) (by omega) hr).mono ?_
                rintro en w' ⟨rfl, h1, h2⟩
                exact ⟨rfl, cs, h1, h2⟩
        · refine ⟨[], 0, x, by simp, hok, fun w bs h => absurd (readyW_ok h) hgo, fun w cs h => ?_⟩
          exfalso
          apply hgo
          obtain ⟨bg, rg, GY, pv, h, _, _⟩ := h
          have hsrc := h.src
          unfold readyW seedW
          cases hx2 : x.s with
          | none => simp only [hx2]; split <;> exact seedOf_ok _ _
          | some f =>
            rw [hx2] at hsrc
            obtain ⟨_, _, hF, _⟩ := hsrc
            simp only [hx2]
            split
            · exact reseedOf_ok hF.ok _
            · exact hF.ok
end Go.Proofs.YtbifmhbkmnofiaaGreat
namespace Go.Proofs.YtbifmhbkmnofiaaGreat
open Go.RowKit
set_option linter.unusedVariables false
set_option linter.unusedSimpArgs false
set_option maxRecDepth 20000 in
set_option maxHeartbeats 2000000 in
theorem flows_new (o : OpV) (N Wb k : Nat) (own : Nat → Tag) (t : Sta) (w : World) (h : Inv noTag w N Wb k own t) (ho : o.ok) (hk : o.kind = 12) (hkb : (k + 1) * 96 ≤ 140737488355328) :
    Calls Tryz.prog 14 #[.pointer (some ⟨Wb, 0, none⟩), o.val] w fun e w' => e = .returned (.bool true) ∧ ∃ own' t', Inv noTag w' N Wb (k + 1) own' t' ∧ Nxt w w' own own' := by
  obtain ⟨i0, hi, hz0, hz1, hz2⟩ := info_parts Tryz.info_we
  have HB := hid ((Below.refl w.heap.size w).alloc (Nat.le_refl _) o.obj)
  have HO := hid (OpAt.new w o)
  have G := open_gen o.n o.x o.y o.z o.s N (by have := ho.s1; omega)
  have hO := HO.out
  obtain ⟨o0, o1, o2, o3, o4, o5, o6, o7, o8, _⟩ := hO
  generalize how : w.alloc o.obj = w1 at *
  unfold OpV.obj at how
  obtain ⟨kd, a, n, s, t0, u, x, y, z⟩ := o
  dsimp only at *
  subst hk
  have HI := hid h
  clear h ho
  unfold OpV.val
  dsimp only
  rcases G with ⟨q, hqok, g1, g2⟩ | ⟨er, g1, g2⟩
  · have G1 := hid g1
    have G2 := hid g2
    clear g1 g2
    go_enter Tryz.func14, Tryz.ntmps14
    go_wp2_with fail
    clear how
    have hNw : N ≤ w.heap.size := by have := HI.out.wlo; omega
    refine (G1.out w1 (by have := HB.out.size; omega)).mono ?_
    rintro e w2 ⟨A, rfl, hA, hF2, hB2⟩
    have hO2 := HO.out.below hB2
    obtain ⟨q0, q1, q2, q3, q4, q5, q6, q7, q8, _⟩ := hO2
    have HB2 := hid (HB.out.trans (hB2.mono HB.out.size))
    have hA0 : w.heap.size ≤ A := Nat.le_trans HB.out.size hA
    have HF2 := hid hF2
    dsimp only at q0 q1 q2 q3 q4 q5 q6 q7 q8
    clear hB2 hF2 HB HO o0 o1 o2 o3 o4 o5 o6 o7 o8 hA
    go_wp2_with fail
    refine (G2.out w2 (by have := HB2.out.size; omega)).mono ?_
    rintro e w3 ⟨Y, cs, rfl, hY, hR3, hB3⟩
    have hF3 := HF2.out.below hB3
    have hAl := (HF2.out.lo A HF2.out.mem).2
    have HB3 := hid (HB2.out.trans (hB3.mono HB2.out.size))
    have hz2w := HB2.out.size
    have hB4 : Below w3.heap.size w3 (w3.alloc (.cells #[pt A, pt Y] 92)) := (Below.refl _ _).alloc (Nat.le_refl _) _
    have HBa := HB3.out.trans (hB4.mono HB3.out.size)
    have hI4 := (HI.out.below HBa (.we t.wes.length)).few_ (HI.out.few.mono (show k ≤ k + 1 by omega))
    have hSo : WeAt (w3.alloc (.cells #[pt A, pt Y] 92)) N (fun b => newTag own w.heap.size (.we t.wes.length) b = .we t.wes.length) ⟨A, Y, q, 0⟩ := by
      refine ⟨[A], cs, hF3.below hB4, hR3.other hB4.size (fun b hb => hB4.block b (hR3.lo b hb).2), hqok, fun b hb => ?_, fun b hb => newTag_new _ _ _ _ (by have := hY b hb; omega), fun b hb hc => ?_⟩
      · simp at hb; subst hb; exact newTag_new _ _ _ _ hA0
      · simp at hb
        have := hY b hc
        omega
    have hnw := hid (pair_new w3 (pt A) (pt Y) 92)
    have hz4 := al_size w3 (.cells #[pt A, pt Y] 92)
    have hzw := HB3.out.size
    have HNx : Hd (Nxt w (w3.alloc (.cells #[pt A, pt Y] 92)) own (newTag own w.heap.size (.we t.wes.length))) := hid (Nxt.of_below _ _ HBa (newTag_old _ _ _))
    have c0 := ((HI.out.below HB3.out .free).wb (fun hh => hh)).cell 3
    have hv0 : t.vs[3]? = some t.v3 := rfl
    rw [hv0] at c0
    have HI2 := hid hI4
    have HSm := hid hSo
    have hWne : t.v3.ownBlock ≠ some Wb := fun e => by have := (hI4.r3.tag Wb e).1; rw [hI4.wbt] at this; cases this
    have hls := HI.out.few.wes
    clear hI4 hSo hv0 hR3 hB3 hB4 HBa HB3 HB2 HF2 hF3 G1 G2 q0 q1 q2 q3 q4 q5 q6 q7 q8 hA0 hY
    unfold pt at hnw HI2 HSm HNx hz4
    go_wp2_with fail
    refine (num_any 0 _).mono ?_
    rintro e w4 ⟨rfl, hw⟩
    have hw4 := hw.symm
    subst hw4
    clear hw
    go_wp2_with fail
    refine (num_any 0 _).mono ?_
    rintro e w4 ⟨rfl, hw⟩
    have hw4 := hw.symm
    subst hw4
    clear hw
    go_wp2_with (at_builtin; refine wpList_append_own_at _ rfl _ _ 30 rfl N 92 i0 (.agg #[.pointer none, .pointer none]) 2 16 Tryz.underlying30 hi hz0 hz1 hz2 rfl (by decide) t.v3 t.wes.length _ rfl (HI2.out.r3.own_ (fun hh => hh)) ⟨w3.heap.size, 0, none⟩ 1 1 [.pointer (some ⟨A, 0, none⟩), .pointer (some ⟨Y, 0, none⟩)] rfl rfl hnw.out (fun u hu => by simp at hu; rcases hu with hu | hu <;> (subst hu; rfl)) (by unfold maxLen; omega) (by omega) (by omega) ?_)
    intro v' w5 hown hgr hiff hat
    have hI3 := HI2.out.app_we HSm.out hown hgr (by rw [hz4]; exact hat) (by omega) (Nat.zero_le _)
    have hW5 := (HI2.out.wb (fun hh => hh)).other (hgr.block Wb HI2.out.wlo.2 (fun e => hWne e.symm))
    have c05 := hW5.cell 3
    have f05 := hW5.frozen 3
    obtain ⟨a1, n1, hv1⟩ := owns_slice hown
    have HI3 := hid hI3
    clear hown hgr hiff hat hW5 hI3 hnw HI2 HSm c0 hWne
    have hv0 : t.vs[3]? = some t.v3 := rfl
    rw [hv0] at c05
    clear hv0
    subst hv1
    go_wp2
    go_ret
    obtain ⟨own', r1, r2⟩ := HI3.out
    exact ⟨rfl, own', _, r1, HNx.out.trans r2⟩
  · have G1 := hid g1
    have G2 := hid g2
    clear g1 g2
    go_enter Tryz.func14, Tryz.ntmps14
    go_wp2_with fail
    clear how
    refine (G1.out w1).mono ?_
    rintro e w2 ⟨rfl, hB2⟩
    have hO2 := HO.out.below hB2
    obtain ⟨q0, q1, q2, q3, q4, q5, q6, q7, q8, _⟩ := hO2
    have HB2 := hid (HB.out.trans (hB2.mono HB.out.size))
    dsimp only at q0 q1 q2 q3 q4 q5 q6 q7 q8
    clear hB2 HB HO o0 o1 o2 o3 o4 o5 o6 o7 o8
    go_wp2_with fail
    refine (G2.out w2).mono ?_
    rintro e w3 ⟨rfl, hB3⟩
    have HB3 := hid (HB2.out.trans (hB3.mono HB2.out.size))
    clear hB3 HB2 G1 G2 q0 q1 q2 q3 q4 q5 q6 q7 q8
    go_wp2_with fail
    refine (num_any er _).mono ?_
    rintro e w4 ⟨rfl, hw⟩
    have hw4 := hw.symm
    subst hw4
    clear hw
    go_wp2_with fail
    refine (num_any er _).mono ?_
    rintro e w4 ⟨rfl, hw⟩
    have hw4 := hw.symm
    subst hw4
    clear hw
    go_wp2
    go_ret
    exact ⟨rfl, _, t, (HI.out.below HB3.out .free).few_ (HI.out.few.mono (by omega)), Nxt.of_below _ _ HB3.out (newTag_old _ _ _)⟩
end Go.Proofs.YtbifmhbkmnofiaaGreat
