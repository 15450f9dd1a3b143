import Derived.Test.YtbifmhbkmnofiaaGreatNc
namespace Go.Proofs.YtbifmhbkmnofiaaGreat
open Go.RowKit
set_option linter.unusedVariables false
set_option linter.unusedSimpArgs false
/-- the document's source of a well -/
def RsrcAt (w : World) (bs bg : List Nat) (Y : Nat) (pv : Value) : Option Fnt → Prop
  | none => pv = .pointer none
  | some f => ∃ Z, pv = .pointer (some ⟨Z, 0, none⟩) ∧ RfAt w Z f ∧ Z ∈ bs ∧ Z ≠ Y ∧ Z ∉ bg
/-- the document's well in block Y: its guard at GY, in the blocks bg; all that is its own among bs -/
structure RwW (w : World) (N Y : Nat) (bs bg : List Nat) (x : Wel) (rg : Rg) (GY : Nat) (pv : Value) : Prop where
  cells : WbAt w Y [.int .i64 x.k, .string x.nm, .pointer (some ⟨GY, 0, none⟩), .string (toS x.kept), pv]
  guard : RgAt w N GY bg rg
  sub : ∀ b ∈ bg, b ∈ bs ∧ b ≠ Y
  src : RsrcAt w bs bg Y pv x.s
  mem : Y ∈ bs
  lo : ∀ b ∈ bs, N ≤ b ∧ b < w.heap.size
  gr : GR x.g rg
  kB : allB x.kept
def RwAt (w : World) (N Y : Nat) (bs : List Nat) (x : Wel) (c : Nat) : Prop := ∃ bg rg GY pv, RwW w N Y bs bg x rg GY pv ∧ rg.cs.length ≤ c ∧ (x.g.br = true → x.kept = [])
theorem RsrcAt.other {w w' : World} {bs bg : List Nat} {Y : Nat} {pv : Value} {s : Option Fnt} (h : RsrcAt w bs bg Y pv s) (he : ∀ b ∈ bs, b ≠ Y → b ∉ bg → w'.heap[b]? = w.heap[b]?) : RsrcAt w' bs bg Y pv s := by
  cases s with
  | none => exact h
  | some f =>
    obtain ⟨Z, h1, h2, h3, h4, h5⟩ := h
    exact ⟨Z, h1, h2.other (he Z h3 h4 h5), h3, h4, h5⟩
theorem RwW.other {w w' : World} {N Y : Nat} {bs bg : List Nat} {x : Wel} {rg : Rg} {GY : Nat} {pv : Value} (h : RwW w N Y bs bg x rg GY pv) (hs : w.heap.size ≤ w'.heap.size) (he : ∀ b ∈ bs, w'.heap[b]? = w.heap[b]?) : RwW w' N Y bs bg x rg GY pv :=
  ⟨h.cells.other (he Y h.mem), h.guard.other hs (fun b hb => he b (h.sub b hb).1), h.sub, h.src.other (fun b hb _ _ => he b hb), h.mem, fun b hb => ⟨(h.lo b hb).1, by have := (h.lo b hb).2; omega⟩, h.gr, h.kB⟩
theorem RwAt.other {w w' : World} {N Y : Nat} {bs : List Nat} {x : Wel} {c : Nat} (h : RwAt w N Y bs x c) (hs : w.heap.size ≤ w'.heap.size) (he : ∀ b ∈ bs, w'.heap[b]? = w.heap[b]?) : RwAt w' N Y bs x c := by
  obtain ⟨bg, rg, GY, pv, h, hc⟩ := h
  exact ⟨bg, rg, GY, pv, h.other hs he, hc⟩
theorem RwW.below {w w' : World} {N Y : Nat} {bs bg : List Nat} {x : Wel} {rg : Rg} {GY : Nat} {pv : Value} (h : RwW w N Y bs bg x rg GY pv) (hb : Below w.heap.size w w') : RwW w' N Y bs bg x rg GY pv :=
  h.other hb.size (fun b hm => hb.block b (h.lo b hm).2)
set_option maxHeartbeats 1000000 in
theorem ropen_kind (k : Int) (st wi sk : Int) (nm : ByteArray) (w : World) (h1 : k ≠ 1) (h2 : k ≠ 2) :
    Calls Tryz.prog 43 #[.int .i64 k, .agg #[.int .i64 st, .int .i64 wi, .int .i64 sk], .string nm] w fun e w' => e = .returned (.tuple #[.pointer none, .int .i64 1]) ∧ Below w.heap.size w w' := by
  have HB1 := hid ((Below.refl w.heap.size w).alloc (Nat.le_refl _) (.cells #[.int .i64 st, .int .i64 wi, .int .i64 sk] 36))
  have b1 : (k != 1) = true := by simpa using h1
  have b2 : (k != 2) = true := by simpa using h2
  go_enter Tryz.func43, Tryz.ntmps43
  go_wp2
  go_ret2
  exact ⟨rfl, HB1.out⟩
set_option maxHeartbeats 1000000 in
theorem ropen_arg (k : Int) (st wi sk : Int) (nm : ByteArray) (w : World) (hk : k = 1 ∨ k = 2) (h : ¬ (2 ≤ st ∧ st ≤ 50 ∧ 2 ≤ wi ∧ wi ≤ 50 ∧ 2 ≤ sk ∧ sk ≤ wi) ∨ 64 < nm.size) (hn : nm.size ≤ 9223372036854775807) :
    Calls Tryz.prog 43 #[.int .i64 k, .agg #[.int .i64 st, .int .i64 wi, .int .i64 sk], .string nm] w fun e w' => e = .returned (.tuple #[.pointer none, .int .i64 2]) ∧ Below w.heap.size w w' := by
  have hb1 := al_new w (.cells #[.int .i64 st, .int .i64 wi, .int .i64 sk] 36)
  have HB1 := hid ((Below.refl w.heap.size w).alloc (Nat.le_refl _) (.cells #[.int .i64 st, .int .i64 wi, .int .i64 sk] 36))
  have c0 := cell_of_row _ _ 0 _ _ _ hb1
  have c1 := cell_of_row _ _ 1 _ _ _ hb1
  have c2 := cell_of_row _ _ 2 _ _ _ hb1
  simp only [List.getElem?_toArray, List.getElem?_cons_zero, List.getElem?_cons_succ] at c0 c1 c2
  clear hb1
  by_cases hg : 2 ≤ st ∧ st ≤ 50 ∧ 2 ≤ wi ∧ wi ≤ 50 ∧ 2 ≤ sk ∧ sk ≤ wi
  · have hn2 : 64 < nm.size := h.resolve_left (fun hh => hh hg)
    have hn3 : (64 : Int) < nm.size := by omega
    rcases hk with rfl | rfl
    · go_enter Tryz.func43, Tryz.ntmps43
      go_wp2_with fail
      generalize (w.alloc (.cells #[.int .i64 st, .int .i64 wi, .int .i64 sk] 36)) = w1 at *
      refine (rnewGuard_yes st wi sk w1.heap.size w1 hg (Nat.le_refl _)).mono ?_
      rintro e w2 ⟨GY, rfl, _, _, hB2⟩
      have HB2 := hid (HB1.out.trans (hB2.mono HB1.out.size))
      clear hB2 HB1 hg h
      go_wp2
      go_ret2
      exact ⟨rfl, HB2.out⟩
    · go_enter Tryz.func43, Tryz.ntmps43
      go_wp2_with fail
      generalize (w.alloc (.cells #[.int .i64 st, .int .i64 wi, .int .i64 sk] 36)) = w1 at *
      refine (rnewGuard_yes st wi sk w1.heap.size w1 hg (Nat.le_refl _)).mono ?_
      rintro e w2 ⟨GY, rfl, _, _, hB2⟩
      have HB2 := hid (HB1.out.trans (hB2.mono HB1.out.size))
      clear hB2 HB1 hg h
      go_wp2
      go_ret2
      exact ⟨rfl, HB2.out⟩
  · rcases hk with rfl | rfl
    · go_enter Tryz.func43, Tryz.ntmps43
      go_wp2_with fail
      generalize (w.alloc (.cells #[.int .i64 st, .int .i64 wi, .int .i64 sk] 36)) = w1 at *
      refine (rnewGuard_no st wi sk w1 hg).mono ?_
      rintro e w2 ⟨rfl, hB2⟩
      have HB2 := hid (HB1.out.trans (hB2.mono HB1.out.size))
      clear hB2 HB1 hg h
      go_wp2
      go_ret2
      exact ⟨rfl, HB2.out⟩
    · go_enter Tryz.func43, Tryz.ntmps43
      go_wp2_with fail
      generalize (w.alloc (.cells #[.int .i64 st, .int .i64 wi, .int .i64 sk] 36)) = w1 at *
      refine (rnewGuard_no st wi sk w1 hg).mono ?_
      rintro e w2 ⟨rfl, hB2⟩
      have HB2 := hid (HB1.out.trans (hB2.mono HB1.out.size))
      clear hB2 HB1 hg h
      go_wp2
      go_ret2
      exact ⟨rfl, HB2.out⟩
set_option maxHeartbeats 1000000 in
theorem ropen_yes (k st wi sk : Int) (nm : ByteArray) (N : Nat) (w : World) (hk : k = 1 ∨ k = 2) (hg : 2 ≤ st ∧ st ≤ 50 ∧ 2 ≤ wi ∧ wi ≤ 50 ∧ 2 ≤ sk ∧ sk ≤ wi) (hn : nm.size ≤ 64) (hN : N ≤ w.heap.size) :
    Calls Tryz.prog 43 #[.int .i64 k, .agg #[.int .i64 st, .int .i64 wi, .int .i64 sk], .string nm] w fun e w' => ∃ Y bs, e = .returned (.tuple #[.pointer (some ⟨Y, 0, none⟩), .int .i64 0]) ∧ (∀ b ∈ bs, w.heap.size ≤ b) ∧ RwAt w' N Y bs ⟨k, nm, ⟨st, wi, sk, W0, false⟩, [], none⟩ 0 ∧ Below w.heap.size w w' := by
  have hb1 := al_new w (.cells #[.int .i64 st, .int .i64 wi, .int .i64 sk] 36)
  have HB1 := hid ((Below.refl w.heap.size w).alloc (Nat.le_refl _) (.cells #[.int .i64 st, .int .i64 wi, .int .i64 sk] 36))
  have hz1 := al_size w (.cells #[.int .i64 st, .int .i64 wi, .int .i64 sk] 36)
  have c0 := cell_of_row _ _ 0 _ _ _ hb1
  have c1 := cell_of_row _ _ 1 _ _ _ hb1
  have c2 := cell_of_row _ _ 2 _ _ _ hb1
  simp only [List.getElem?_toArray, List.getElem?_cons_zero, List.getElem?_cons_succ] at c0 c1 c2
  clear hb1
  have hn' : ¬ (64 : Int) < nm.size := by omega
  have fin : ∀ (w1 w2 : World) (GY : Nat), Below w.heap.size w w1 → w1.heap.size = w.heap.size + 1 → w1.heap.size ≤ GY → RgAt w2 N GY [GY] ⟨st, wi, sk, [], false⟩ → Below w1.heap.size w1 w2 → ∃ bs, (∀ b ∈ bs, w.heap.size ≤ b) ∧ RwAt (w2.alloc (.cells #[.int .i64 k, .string nm, .pointer (some ⟨GY, 0, none⟩), .string ⟨#[]⟩, .pointer none] 95)) N w2.heap.size bs ⟨k, nm, ⟨st, wi, sk, W0, false⟩, [], none⟩ 0 ∧ Below w.heap.size w (w2.alloc (.cells #[.int .i64 k, .string nm, .pointer (some ⟨GY, 0, none⟩), .string ⟨#[]⟩, .pointer none] 95)) := by
    intro w1 w2 GY h1 hz h2 h3 h4
    have hB2 := h1.trans (h4.mono h1.size)
    have h5 : Below w2.heap.size w2 (w2.alloc (.cells #[.int .i64 k, .string nm, .pointer (some ⟨GY, 0, none⟩), .string ⟨#[]⟩, .pointer none] 95)) := (Below.refl _ _).alloc (Nat.le_refl _) _
    have hGl : GY < w2.heap.size := by obtain ⟨_, h⟩ := h3; exact (h.lo GY h.mem).2
    have hzz := al_size w2 (.cells #[.int .i64 k, .string nm, .pointer (some ⟨GY, 0, none⟩), .string ⟨#[]⟩, .pointer none] 95)
    have hz2 := hB2.size
    refine ⟨[w2.heap.size, GY], fun b hb => by simp at hb; omega, ⟨[GY], ⟨st, wi, sk, [], false⟩, GY, .pointer none, ⟨⟨95, al_new _ _⟩, h3.below h5, fun b hb => by simp at hb; subst hb; exact ⟨by simp, by omega⟩, rfl, by simp, fun b hb => by simp at hb; omega, ⟨rfl, rfl, rfl, rfl, Gd.ok_new hg false, fun _ => Ab.zero _⟩, (fun x hx => by simp at hx)⟩, by simp, fun _ => rfl⟩, hB2.trans (h5.mono hB2.size)⟩
  have Fin := hid fin
  clear fin
  rcases hk with rfl | rfl
  · go_enter Tryz.func43, Tryz.ntmps43
    go_wp2_with fail
    generalize (w.alloc (.cells #[.int .i64 st, .int .i64 wi, .int .i64 sk] 36)) = w1 at *
    refine (rnewGuard_yes st wi sk N w1 hg (by omega)).mono ?_
    rintro e w2 ⟨GY, rfl, hG1, hG2, hB2⟩
    have F := hid (Fin.out w1 w2 GY HB1.out hz1 hG1 hG2 hB2)
    clear hB2 HB1 hg hG2 hG1 Fin c0 c1 c2
    go_wp2
    go_ret2
    obtain ⟨bs, f1, f2, f3⟩ := F.out
    exact ⟨_, bs, rfl, f1, f2, f3⟩
  · go_enter Tryz.func43, Tryz.ntmps43
    go_wp2_with fail
    generalize (w.alloc (.cells #[.int .i64 st, .int .i64 wi, .int .i64 sk] 36)) = w1 at *
    refine (rnewGuard_yes st wi sk N w1 hg (by omega)).mono ?_
    rintro e w2 ⟨GY, rfl, hG1, hG2, hB2⟩
    have F := hid (Fin.out w1 w2 GY HB1.out hz1 hG1 hG2 hB2)
    clear hB2 HB1 hg hG2 hG1 Fin c0 c1 c2
    go_wp2
    go_ret2
    obtain ⟨bs, f1, f2, f3⟩ := F.out
    exact ⟨_, bs, rfl, f1, f2, f3⟩
end Go.Proofs.YtbifmhbkmnofiaaGreat
namespace Go.Proofs.YtbifmhbkmnofiaaGreat
open Go.RowKit
set_option linter.unusedVariables false
set_option linter.unusedSimpArgs false
theorem GwE_frozen {w : World} {Y : Nat} {vs : List Value} (h : WbAt w Y vs) (j : Nat) : w.frozen? ⟨Y, j, none⟩ = false := h.frozen j
theorem toS_keep (ky : List Int) (h : 200 < ky.length) (hB : allB ky) : (toS ky).extract ((toS ky).size - 200) (toS ky).size = toS (keepL ky) := by
  have hz := toS_size ky
  have e := bts_mid (toS ky) ((toS ky).size - 200) 200 (by omega)
  rw [show (toS ky).size - 200 + 200 = (toS ky).size by omega, bts_toS ky hB] at e
  rw [← toS_bts ((toS ky).extract ((toS ky).size - 200) (toS ky).size), e]
  unfold keepL
  rw [List.take_of_length_le (by rw [List.length_drop]; omega), hz]
/-- what is kept is written anew -/
theorem RwW.keep {w : World} {N Y : Nat} {bs bg : List Nat} {x : Wel} {rg : Rg} {GY : Nat} {pv : Value} (h : RwW w N Y bs bg x rg GY pv) (ks : List Int) (hB : allB ks) : RwW (w.setCell ⟨Y, 3, none⟩ (.string (toS ks))) N Y bs bg ⟨x.k, x.nm, x.g, ks, x.s⟩ rg GY pv := by
  have hF := (Ex.refl Y w).setCell 3 (.string (toS ks))
  exact ⟨h.cells.set 3 _, h.guard.other hF.size (fun b hb => hF.block b (h.lo b (h.sub b hb).1).2 (h.sub b hb).2), h.sub, h.src.other (fun b hb hY _ => hF.block b (h.lo b hb).2 hY), h.mem, fun b hb => ⟨(h.lo b hb).1, by have := (h.lo b hb).2; have := hF.size; omega⟩, h.gr, hB⟩
/-- its guard has turned -/
theorem RwW.turn {w w' : World} {N Y : Nat} {bs bg bg' : List Nat} {x : Wel} {rg rg' : Rg} {gd : Gd} {GY : Nat} {pv : Value} (h : RwW w N Y bs bg x rg GY pv) (hG : RgAt w' N GY bg' rg') (hR : GR gd rg') (hT : Turns w w' bg bg') : ∃ bs', RwW w' N Y bs' bg' ⟨x.k, x.nm, gd, x.kept, x.s⟩ rg' GY pv ∧ Turns w w' bs bs' := by
  have hz := hT.fr.size
  have hlt : ∀ b ∈ bg', b < w'.heap.size ∧ N ≤ b := fun b hb => by obtain ⟨_, h⟩ := hG; exact ⟨(h.lo b hb).2, (h.lo b hb).1⟩
  refine ⟨bs ++ bg', ⟨h.cells.other (hT.fr.block Y (h.lo Y h.mem).2 (fun hh => (h.sub Y hh).2 rfl)), hG, fun b hb => ⟨by simp [hb], ?_⟩, ?_, by simp [h.mem], fun b hb => ?_, hR, h.kB⟩, ⟨hT.fr.mono (fun k _ hk => (h.sub k hk).1), fun b hb => ?_⟩⟩
  · rcases hT.grow b hb with q | q
    · exact (h.sub b q).2
    · have := (h.lo Y h.mem).2; omega
  · have hs := h.src
    dsimp only
    cases hx : x.s with
    | none => rw [hx] at hs; exact hs
    | some f =>
      rw [hx] at hs
      obtain ⟨Z, h1, h2, h3, h4, h5⟩ := hs
      refine ⟨Z, h1, h2.other (hT.fr.block Z (h.lo Z h3).2 h5), by simp [h3], h4, fun hh => ?_⟩
      rcases hT.grow Z hh with q | q
      · exact h5 q
      · have := (h.lo Z h3).2; omega
  · simp at hb
    rcases hb with hb | hb
    · exact ⟨(h.lo b hb).1, by have := (h.lo b hb).2; omega⟩
    · exact ⟨(hlt b hb).2, (hlt b hb).1⟩
  · simp at hb
    rcases hb with hb | hb
    · exact .inl hb
    · rcases hT.grow b hb with q | q
      · exact .inl (h.sub b q).1
      · exact .inr q
theorem RwW.c {w : World} {N Y : Nat} {bs bg : List Nat} {x : Wel} {rg : Rg} {GY : Nat} {pv : Value} (h : RwW w N Y bs bg x rg GY pv) : w.cell? ⟨Y, 0, none⟩ = some (.int .i64 x.k) ∧ w.cell? ⟨Y, 1, none⟩ = some (.string x.nm) ∧ w.cell? ⟨Y, 2, none⟩ = some (.pointer (some ⟨GY, 0, none⟩)) ∧ w.cell? ⟨Y, 3, none⟩ = some (.string (toS x.kept)) ∧ w.cell? ⟨Y, 4, none⟩ = some pv :=
  ⟨h.cells.cell 0, h.cells.cell 1, h.cells.cell 2, h.cells.cell 3, h.cells.cell 4⟩
theorem RwW.keep_turns {w : World} {N Y : Nat} {bs bg : List Nat} {x : Wel} {rg : Rg} {GY : Nat} {pv : Value} (h : RwW w N Y bs bg x rg GY pv) (v : Value) (j : Nat) : Turns w (w.setCell ⟨Y, j, none⟩ v) bs bs :=
  ⟨(Fr.of_ex ((Ex.refl Y w).setCell j v)).mono (fun q _ hq => by rw [hq]; exact h.mem), fun q hq => .inl hq⟩
set_option maxHeartbeats 1000000 in
theorem rwfeed_dead (N Y : Nat) (bs : List Nat) (x : Wel) (cc : Nat) (a : Option Addr) (n c : Nat) (w : World) (h : RwAt w N Y bs x cc) (hb : x.g.br = true) :
    Calls Tryz.prog 45 #[.pointer (some ⟨Y, 0, none⟩), .slice a n c] w fun e w' => e = .returned (.tuple #[.int .i64 0, .int .i64 6]) ∧ w' = w := by
  obtain ⟨bg, rg, GY, pv, h, _, _⟩ := h
  obtain ⟨_, _, c2, _, _⟩ := h.c
  have F := hid (rgfeed_dead N GY bg rg a n c w h.guard (by rw [h.gr.br]; exact hb))
  clear h
  go_enter Tryz.func45, Tryz.ntmps45
  go_wp2_with fail
  refine F.out.mono ?_
  rintro e w1 ⟨rfl, hw⟩
  have hw1 := hw.symm
  subst hw1
  clear hw F
  go_wp2
  go_ret2
  exact ⟨rfl, rfl⟩
set_option maxHeartbeats 1000000 in
theorem rwfeed_many (N Y : Nat) (bs : List Nat) (x : Wel) (cc : Nat) (a : Option Addr) (n c : Nat) (w : World) (h : RwAt w N Y bs x cc) (hb : x.g.br = false) (hn : 200 < n) :
    Calls Tryz.prog 45 #[.pointer (some ⟨Y, 0, none⟩), .slice a n c] w fun e w' => e = .returned (.tuple #[.int .i64 0, .int .i64 2]) ∧ w' = w := by
  obtain ⟨bg, rg, GY, pv, h, _, _⟩ := h
  obtain ⟨_, _, c2, _, _⟩ := h.c
  have F := hid (rgfeed_many N GY bg rg a n c w h.guard (by rw [h.gr.br]; exact hb) hn)
  clear h
  go_enter Tryz.func45, Tryz.ntmps45
  go_wp2_with fail
  refine F.out.mono ?_
  rintro e w1 ⟨rfl, hw⟩
  have hw1 := hw.symm
  subst hw1
  clear hw F
  go_wp2
  go_ret2
  exact ⟨rfl, rfl⟩
theorem Byt.fr {w w' : World} {v : Value} {xs : List Int} (h : Byt w v xs) (he : ∀ ad n c, v = .slice (some ad) n c → 0 < n → ad.block < w.heap.size → w'.heap[ad.block]? = w.heap[ad.block]?) : Byt w' v xs := by
  rcases h with h | ⟨db, off, cap, rfl, hc⟩
  · exact .inl h
  · by_cases hp : 0 < xs.length
    · refine .inr ⟨db, off, cap, rfl, fun j hj => ?_⟩
      have h1 := hc j hj
      have hl : db < w.heap.size := World.block_lt_of_cell? w _ h1
      rw [← h1]
      unfold World.cell?
      rw [he _ _ _ rfl hp hl]
    · have h0 : xs = [] := List.eq_nil_of_length_eq_zero (by omega)
      subst h0
      exact .inl ⟨rfl, _, _, rfl⟩
set_option maxRecDepth 20000 in
set_option maxHeartbeats 2000000 in
theorem rwfeed_take (N Y : Nat) (bs : List Nat) (x : Wel) (cc : Nat) (v : Value) (ys : List Int) (w : World) (h : RwAt w N Y bs x cc) (hb : x.g.br = false) (hv : Byt w v ys) (hyB : allB ys) (hvB : ∀ ad n c, v = .slice (some ad) n c → 0 < n → ad.block ∉ bs) (hl : ys.length ≤ 200) (hk : x.kept.length ≤ 200) (hcc : cc ≤ 35184372088832) (hN : N ≤ w.heap.size) :
    Calls Tryz.prog 45 #[.pointer (some ⟨Y, 0, none⟩), v] w fun e w' => e = .returned (.tuple #[.int .i64 (fedG x.g ys).1, .int .i64 (fedG x.g ys).2.1]) ∧ ∃ bs', RwAt w' N Y bs' ⟨x.k, x.nm, (fedG x.g ys).2.2, if (fedG x.g ys).2.1 = 0 then keepL (x.kept ++ ys) else [], x.s⟩ (cc + 200) ∧ Turns w w' bs bs' := by
  obtain ⟨bg, rg, GY, pv, h, hcs, _⟩ := h
  obtain ⟨_, _, c2, _, _⟩ := h.c
  have F := hid (rgfeed_take N GY bg x.g rg v ys w h.guard h.gr hb hv (fun ad n c hh hp => fun hm => hvB ad n c hh hp (h.sub _ hm).1) hl (by omega) hN)
  have hform := (fedG_form h.gr.ok ys).2
  obtain ⟨av, capv, hve, _⟩ := hv.form2
  have Hv := hid hv
  have HvB := hid hvB
  have H := hid h
  clear h hv hvB
  subst hve
  generalize fedG x.g ys = R at *
  obtain ⟨rn, re, gd⟩ := R
  dsimp only at hform F
  go_enter Tryz.func45, Tryz.ntmps45
  go_wp2_with fail
  refine F.out.mono ?_
  rintro e w1 ⟨rfl, bg', rg', hG, hR, hc2, hT⟩
  rcases hform with ⟨h0, hbr, hrn⟩ | ⟨h45, hbr⟩
  · obtain ⟨bs1, hW1, hT1⟩ := H.out.turn hG hR hT
    subst h0
    have hv1 : Byt w1 (.slice av ys.length capv) ys := Hv.out.fr (fun ad n c hh hp hlt => hT.fr.block _ hlt (fun hm => HvB.out ad n c hh hp (H.out.sub _ hm).1))
    obtain ⟨_, _, _, d3, _⟩ := hW1.c
    dsimp only at d3
    have f3 := hW1.cells.frozen 3
    have HW1 := hid hW1
    have HT1 := hid hT1
    have Hv1 := hid hv1
    have hkz : (toS x.kept).size ≤ 200 := by rw [toS_size]; exact hk
    have hyz : (toS ys).size ≤ 200 := by rw [toS_size]; exact hl
    have hbr' := hid hbr
    clear hW1 hT1 hv1 hG hR hT F H Hv HvB c2 hbr
    go_wp2_with fail
    refine wp_region_E (S := fun w' => w'.cell? ⟨Y, 3, none⟩ = some (.string (toS x.kept)) ∧ Byt w' (.slice av ys.length capv) ys) 10 (by kernel_rfl) ⟨d3, Hv1.out⟩ (fun hSw => ?_)
    refine wpAnyE_take (i := 0) (v := ?_) rfl (by decide +kernel) (by decide) (by decide +kernel) (by decide +kernel) (by decide +kernel) (fun _ _ _ h => h) (Or.inl ⟨by rfl, ?_⟩) hSw ?_
    rotate_left
    · intro w hw; go_simp; try with_reducible rfl
    simp only [Act.put, List.getElem_toArray, List.getElem_cons_zero, List.getElem_cons_succ, List.setIfInBounds_toArray, List.set_cons_zero, List.set_cons_succ]
    refine wpAnyE_take (i := 1) (v := ?_) rfl (by decide +kernel) (by decide) (by decide +kernel) (by decide +kernel) (by decide +kernel) (fun _ _ _ h => h) (Or.inl ⟨by rfl, ?_⟩) hSw ?_
    rotate_left
    · intro w hw; go_simp; try with_reducible rfl
    simp only [Act.put, List.getElem_toArray, List.getElem_cons_zero, List.getElem_cons_succ, List.setIfInBounds_toArray, List.set_cons_zero, List.set_cons_succ]
    refine wpAnyE_take (i := 2) (v := ?_) rfl (by decide +kernel) (by decide) (by decide +kernel) (by decide +kernel) (by decide +kernel) (fun _ _ _ h => h) (Or.inl ⟨by rfl, ?_⟩) hSw ?_
    rotate_left
    · intro w hw; go_simp; try with_reducible rfl
    simp only [Act.put, List.getElem_toArray, List.getElem_cons_zero, List.getElem_cons_succ, List.setIfInBounds_toArray, List.set_cons_zero, List.set_cons_succ]
    refine wpAnyE_take (i := 3) (v := ?_) rfl (by decide +kernel) (by decide) (by decide +kernel) (by decide +kernel) (by decide +kernel) (fun _ _ _ h => h) (Or.inl ⟨by rfl, ?_⟩) hSw ?_
    rotate_left
    · intro w hw; go_simp; try with_reducible rfl
    simp only [Act.put, List.getElem_toArray, List.getElem_cons_zero, List.getElem_cons_succ, List.setIfInBounds_toArray, List.set_cons_zero, List.set_cons_succ]
    refine wpAnyE_take (i := 4) (v := ?_) rfl (by decide +kernel) (by decide) (by decide +kernel) (by decide +kernel) (by decide +kernel) (fun _ _ _ h => h) (Or.inl ⟨by rfl, ?_⟩) hSw ?_
    rotate_left
    · intro w hw; have hcell := hw.1; clear hw; go_simp; try with_reducible rfl
    simp only [Act.put, List.getElem_toArray, List.getElem_cons_zero, List.getElem_cons_succ, List.setIfInBounds_toArray, List.set_cons_zero, List.set_cons_succ]
    refine wpAnyE_take (i := 5) (v := ?_) rfl (by decide +kernel) (by decide) (by decide +kernel) (by decide +kernel) (by decide +kernel) (fun _ _ _ h => h) (Or.inl ⟨by rfl, ?_⟩) hSw ?_
    rotate_left
    · intro w hw; go_simp; try with_reducible rfl
    simp only [Act.put, List.getElem_toArray, List.getElem_cons_zero, List.getElem_cons_succ, List.setIfInBounds_toArray, List.set_cons_zero, List.set_cons_succ]
    refine wpAnyE_one (i := 6) (by kernel_rfl) rfl (fun K hK => ?_)
    rw [if_pos (by rfl)]
    refine wp_str _ rfl _ ys rfl hSw.2 ?_
    refine hK.out _ _ (fun _ => hSw) ?_
    clear hK K
    have hadd : Hd (toS x.kept ++ toS ys = toS (x.kept ++ ys)) := hid (toS_append _ _)
    have hnb : ¬ 9223372036854775807 < (toS x.kept).size + (toS ys).size := by omega
    refine wpAnyE_one (i := 7) (by kernel_rfl) rfl (fun K hK => ?_)
    go_simp
    rw [hadd.out]
    refine hK.out _ _ (fun _ => hSw) ?_
    clear hK K
    have hkyl : (x.kept ++ ys).length = x.kept.length + ys.length := List.length_append
    have hkyB : allB (x.kept ++ ys) := allB_append HW1.out.kB hyB
    generalize hky : x.kept ++ ys = ky at *
    have Hky := hid hky
    clear hky
    refine wpAnyE_one (i := 8) (by kernel_rfl) rfl (fun K hK => ?_)
    go_simp
    refine hK.out _ _ (fun _ => hSw) ?_
    clear hK K
    refine wpAnyE_one (i := 9) (by kernel_rfl) rfl (fun K hK => ?_)
    go_simp
    refine hK.out _ _ (fun _ => hSw) ?_
    clear hK K
    have cc3 := hSw.1
    refine wpAnyE_one (i := 10) (by kernel_rfl) rfl (fun K hK => ?_)
    go_simp
    have HW2 := hid (HW1.out.keep ky hkyB)
    have HT2 := hid (HT1.out.trans (HW1.out.keep_turns (.string (toS ky)) 3))
    refine hK.out _ _ (fun h => absurd rfl h) ?_
    clear hK K hSw cc3 d3 f3 HW1 HT1 Hv1
    have HW3 : Hd (RwW (w1.setCell ⟨Y, 3, none⟩ (.string (toS ky))).drew N Y bs1 bg' ⟨x.k, x.nm, gd, ky, x.s⟩ rg' GY pv) := hid (HW2.out.other (Nat.le_refl _) (fun _ _ => rfl))
    have HT3 : Hd (Turns w (w1.setCell ⟨Y, 3, none⟩ (.string (toS ky))).drew bs bs1) := hid ⟨⟨HT2.out.fr.1, HT2.out.fr.2, HT2.out.fr.3, HT2.out.fr.4, HT2.out.fr.5⟩, HT2.out.grow⟩
    refine wpAnyE_done (by kernel_rfl) ?_ _
    clear HW2 HT2
    generalize (w1.setCell ⟨Y, 3, none⟩ (.string (toS ky))).drew = w2 at *
    obtain ⟨_, _, _, d3, _⟩ := HW3.out.c
    dsimp only at d3
    have hkz2 : (toS ky).size = ky.length := toS_size ky
    by_cases h200 : 200 < ky.length
    · have hex := hid (toS_keep ky h200 hkyB)
      have hs200 : (200 : Int) < (toS ky).size := by omega
      have hszb : (toS ky).size ≤ 400 := by omega
      have hsub : IntKind.i64.wrap (((toS ky).size : Int) - 200) = ((toS ky).size : Int) - 200 := by rw [IntKind.wrap_i64]; omega
      have hbd : (200 : Int) ≤ (toS ky).size := by omega
      have hbd2 : ((toS ky).size : Int) - 200 ≤ (toS ky).size := by omega
      have htn : (((toS ky).size : Int) - 200).toNat = (toS ky).size - 200 := by omega
      have f3 := HW3.out.cells.frozen 3
      clear hkz2
      generalize htk : toS ky = tk at *
      have Htk := hid htk
      clear htk
      go_wp2_with fail
      refine wp_region_E (S := fun w' => w'.cell? ⟨Y, 3, none⟩ = some (.string tk)) 14 (by kernel_rfl) d3 (fun hSw => ?_)
      refine wpAnyE_take (i := 0) (v := ?_) rfl (by decide +kernel) (by decide) (by decide +kernel) (by decide +kernel) (by decide +kernel) (fun _ _ _ h => h) (Or.inl ⟨by rfl, ?_⟩) hSw ?_
      rotate_left
      · intro w hw; go_simp; try with_reducible rfl
      simp only [Act.put, List.getElem_toArray, List.getElem_cons_zero, List.getElem_cons_succ, List.setIfInBounds_toArray, List.set_cons_zero, List.set_cons_succ]
      refine wpAnyE_take (i := 1) (v := ?_) rfl (by decide +kernel) (by decide) (by decide +kernel) (by decide +kernel) (by decide +kernel) (fun _ _ _ h => h) (Or.inl ⟨by rfl, ?_⟩) hSw ?_
      rotate_left
      · intro w hw; go_simp; try with_reducible rfl
      simp only [Act.put, List.getElem_toArray, List.getElem_cons_zero, List.getElem_cons_succ, List.setIfInBounds_toArray, List.set_cons_zero, List.set_cons_succ]
      refine wpAnyE_take (i := 2) (v := ?_) rfl (by decide +kernel) (by decide) (by decide +kernel) (by decide +kernel) (by decide +kernel) (fun _ _ _ h => h) (Or.inl ⟨by rfl, ?_⟩) hSw ?_
      rotate_left
      · intro w hw; go_simp; try with_reducible rfl
      simp only [Act.put, List.getElem_toArray, List.getElem_cons_zero, List.getElem_cons_succ, List.setIfInBounds_toArray, List.set_cons_zero, List.set_cons_succ]
      refine wpAnyE_take (i := 3) (v := ?_) rfl (by decide +kernel) (by decide) (by decide +kernel) (by decide +kernel) (by decide +kernel) (fun _ _ _ h => h) (Or.inl ⟨by rfl, ?_⟩) hSw ?_
      rotate_left
      · intro w hw; go_simp; try with_reducible rfl
      simp only [Act.put, List.getElem_toArray, List.getElem_cons_zero, List.getElem_cons_succ, List.setIfInBounds_toArray, List.set_cons_zero, List.set_cons_succ]
      refine wpAnyE_take (i := 4) (v := ?_) rfl (by decide +kernel) (by decide) (by decide +kernel) (by decide +kernel) (by decide +kernel) (fun _ _ _ h => h) (Or.inl ⟨by rfl, ?_⟩) hSw ?_
      rotate_left
      · intro w hw; go_simp; try with_reducible rfl
      simp only [Act.put, List.getElem_toArray, List.getElem_cons_zero, List.getElem_cons_succ, List.setIfInBounds_toArray, List.set_cons_zero, List.set_cons_succ]
      refine wpAnyE_take (i := 5) (v := ?_) rfl (by decide +kernel) (by decide) (by decide +kernel) (by decide +kernel) (by decide +kernel) (fun _ _ _ h => h) (Or.inl ⟨by rfl, ?_⟩) hSw ?_
      rotate_left
      · intro w hw; go_simp; try with_reducible rfl
      simp only [Act.put, List.getElem_toArray, List.getElem_cons_zero, List.getElem_cons_succ, List.setIfInBounds_toArray, List.set_cons_zero, List.set_cons_succ]
      refine wpAnyE_take (i := 6) (v := ?_) rfl (by decide +kernel) (by decide) (by decide +kernel) (by decide +kernel) (by decide +kernel) (fun _ _ _ h => h) (Or.inl ⟨by rfl, ?_⟩) hSw ?_
      rotate_left
      · intro w hw; go_simp; try with_reducible rfl
      simp only [Act.put, List.getElem_toArray, List.getElem_cons_zero, List.getElem_cons_succ, List.setIfInBounds_toArray, List.set_cons_zero, List.set_cons_succ]
      refine wpAnyE_take (i := 7) (v := ?_) rfl (by decide +kernel) (by decide) (by decide +kernel) (by decide +kernel) (by decide +kernel) (fun _ _ _ h => h) (Or.inl ⟨by rfl, ?_⟩) hSw ?_
      rotate_left
      · intro w hw; go_simp; try with_reducible rfl
      simp only [Act.put, List.getElem_toArray, List.getElem_cons_zero, List.getElem_cons_succ, List.setIfInBounds_toArray, List.set_cons_zero, List.set_cons_succ]
      refine wpAnyE_take (i := 8) (v := ?_) rfl (by decide +kernel) (by decide) (by decide +kernel) (by decide +kernel) (by decide +kernel) (fun _ _ _ h => h) (Or.inl ⟨by rfl, ?_⟩) hSw ?_
      rotate_left
      · intro w hw; go_simp; try with_reducible rfl
      simp only [Act.put, List.getElem_toArray, List.getElem_cons_zero, List.getElem_cons_succ, List.setIfInBounds_toArray, List.set_cons_zero, List.set_cons_succ]
      refine wpAnyE_take (i := 9) (v := ?_) rfl (by decide +kernel) (by decide) (by decide +kernel) (by decide +kernel) (by decide +kernel) (fun _ _ _ h => h) (Or.inl ⟨by rfl, ?_⟩) hSw ?_
      rotate_left
      · intro w hw; go_simp; try with_reducible rfl
      simp only [Act.put, List.getElem_toArray, List.getElem_cons_zero, List.getElem_cons_succ, List.setIfInBounds_toArray, List.set_cons_zero, List.set_cons_succ]
      refine wpAnyE_take (i := 10) (v := ?_) rfl (by decide +kernel) (by decide) (by decide +kernel) (by decide +kernel) (by decide +kernel) (fun _ _ _ h => h) (Or.inl ⟨by rfl, ?_⟩) hSw ?_
      rotate_left
      · intro w hw; go_simp; try with_reducible rfl
      simp only [Act.put, List.getElem_toArray, List.getElem_cons_zero, List.getElem_cons_succ, List.setIfInBounds_toArray, List.set_cons_zero, List.set_cons_succ]
      refine wpAnyE_take (i := 11) (v := ?_) rfl (by decide +kernel) (by decide) (by decide +kernel) (by decide +kernel) (by decide +kernel) (fun _ _ _ h => h) (Or.inl ⟨by rfl, ?_⟩) hSw ?_
      rotate_left
      · intro w hw; go_simp; try with_reducible rfl
      simp only [Act.put, List.getElem_toArray, List.getElem_cons_zero, List.getElem_cons_succ, List.setIfInBounds_toArray, List.set_cons_zero, List.set_cons_succ]
      refine wpAnyE_one (i := 12) (by kernel_rfl) rfl (fun K hK => ?_)
      go_simp
      refine hK.out _ _ (fun _ => hSw) ?_
      clear hK K
      refine wpAnyE_one (i := 13) (by kernel_rfl) rfl (fun K hK => ?_)
      go_simp
      refine hK.out _ _ (fun _ => hSw) ?_
      clear hK K
      have cc3 := hSw
      refine wpAnyE_one (i := 14) (by kernel_rfl) rfl (fun K hK => ?_)
      go_simp
      refine hK.out _ _ (fun h => absurd rfl h) ?_
      clear hK K
      refine wpAnyE_done (by kernel_rfl) ?_ _
      rw [hex.out]
      have hkB2 : allB (keepL ky) := fun z hz => hkyB z (List.mem_of_mem_drop hz)
      have HW4 := hid (HW3.out.keep (keepL ky) hkB2)
      have HT4 := hid (HT3.out.trans (HW3.out.keep_turns (.string (toS (keepL ky))) 3))
      have HW5 : Hd (RwW (w2.setCell ⟨Y, 3, none⟩ (.string (toS (keepL ky)))).drew N Y bs1 bg' ⟨x.k, x.nm, gd, keepL ky, x.s⟩ rg' GY pv) := hid (HW4.out.other (Nat.le_refl _) (fun _ _ => rfl))
      have HT5 : Hd (Turns w (w2.setCell ⟨Y, 3, none⟩ (.string (toS (keepL ky)))).drew bs bs1) := hid ⟨⟨HT4.out.fr.1, HT4.out.fr.2, HT4.out.fr.3, HT4.out.fr.4, HT4.out.fr.5⟩, HT4.out.grow⟩
      clear HW4 HT4 HW3 HT3 d3 f3 cc3 hSw
      generalize (w2.setCell ⟨Y, 3, none⟩ (.string (toS (keepL ky)))).drew = w3 at *
      go_wp2
      go_ret2
      have HW6 := HW5.out
      rw [← Hky.out] at HW6
      exact ⟨rfl, bs1, ⟨bg', rg', GY, pv, HW6, by omega, fun hh => by have : gd.br = true := hh; rw [hbr'.out] at this; cases this⟩, HT5.out⟩
    · have hs200 : ¬ (200 : Int) < (toS ky).size := by omega
      have hks := hid (keepL_short (xs := ky) (by omega))
      clear hkz2
      generalize toS ky = tk at *
      go_wp2
      go_ret2
      have HW6 : RwW w2 N Y bs1 bg' ⟨x.k, x.nm, gd, keepL ky, x.s⟩ rg' GY pv := by rw [hks.out]; exact HW3.out
      rw [← Hky.out] at HW6
      exact ⟨rfl, bs1, ⟨bg', rg', GY, pv, HW6, by omega, fun hh => by have : gd.br = true := hh; rw [hbr'.out] at this; cases this⟩, HT3.out⟩
  · obtain ⟨bs1, hW1, hT1⟩ := H.out.turn hG hR hT
    have f3 := hW1.cells.frozen 3
    obtain ⟨_, _, _, d3, _⟩ := hW1.c
    dsimp only at d3
    have HW2 := hid (hW1.keep [] (fun z hz => by simp at hz))
    have HT2 := hid (hT1.trans (hW1.keep_turns (.string (toS [])) 3))
    have hne : re ≠ 0 := by omega
    have ht0 : toS [] = ⟨#[]⟩ := rfl
    rw [ht0] at HW2 HT2
    have hne2 : (re != 0) = true := by simpa using hne
    have hif : Hd ((if re = 0 then keepL (x.kept ++ ys) else []) = []) := hid (if_neg hne)
    clear hW1 hT1 hG hR hT F H Hv HvB c2 ht0
    rcases h45 with rfl | rfl
    · go_wp2
      go_ret2
      exact ⟨rfl, bs1, ⟨bg', rg', GY, pv, HW2.out, by omega, fun _ => rfl⟩, HT2.out⟩
    · go_wp2
      go_ret2
      exact ⟨rfl, bs1, ⟨bg', rg', GY, pv, HW2.out, by omega, fun _ => rfl⟩, HT2.out⟩
end Go.Proofs.YtbifmhbkmnofiaaGreat
