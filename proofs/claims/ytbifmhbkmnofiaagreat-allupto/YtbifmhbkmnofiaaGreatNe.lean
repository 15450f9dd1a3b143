import Derived.Test.YtbifmhbkmnofiaaGreatNd
namespace Go.Proofs.YtbifmhbkmnofiaaGreat
open Go.RowKit
set_option linter.unusedVariables false
set_option linter.unusedSimpArgs false
theorem refOf_r (f : Fnt) : (refOf f).r = (f.r : Int) := by
  obtain ⟨g, r⟩ := f
  cases g with
  | m g => rw [refOf_m]
  | s g => rw [refOf_s]
theorem made_any (k : Int) (d : ByteArray) (w : World) (hk : k = 1 ∨ k = 2) (hd : d.size ≤ 1000) :
    Calls Tryz.prog 61 #[.int .i64 k, .string d] w fun e w' => ∃ Y, e = .returned (.pointer (some ⟨Y, 0, none⟩)) ∧ w.heap.size ≤ Y ∧ RfAt w' Y ⟨seedOf k (bts d), 1⟩ ∧ Below w.heap.size w w' := by
  rcases hk with rfl | rfl
  · refine (made_m d w hd).mono ?_
    rintro en w' ⟨Y, rfl, hY, hS, hB⟩
    have hs : seedOf 1 (bts d) = .m (seedG (bts d)) := by unfold seedOf; rw [if_pos rfl]
    refine ⟨Y, rfl, hY, ?_, hB⟩
    rw [hs]
    exact ⟨by rw [refOf_m]; exact hS, ok_m (seedG_ok _), B_m (seedG_B _)⟩
  · refine (made_s d w hd).mono ?_
    rintro en w' ⟨Y, rfl, hY, hS, hB⟩
    have hs : seedOf 2 (bts d) = .s (beginS (bts d)) := by unfold seedOf; rw [if_neg (by decide)]
    refine ⟨Y, rfl, hY, ?_, hB⟩
    rw [hs]
    exact ⟨by rw [refOf_s]; exact hS, ok_s (beginS_ok _), B_s _⟩
set_option maxHeartbeats 1000000 in
theorem rwdraw_arg (n : Int) (ex : ByteArray) (Y : Nat) (w : World) (h : n < 0 ∨ 200 < n ∨ 64 < ex.size) (hx : ex.size ≤ 9223372036854775807) :
    Calls Tryz.prog 47 #[.pointer (some ⟨Y, 0, none⟩), .int .i64 n, .string ex] w fun en w' => en = .returned (.tuple #[.string ⟨#[]⟩, .int .i64 2]) ∧ w' = w := by
  by_cases h1 : n < 0
  · go_enter Tryz.func47, Tryz.ntmps47
    go_wp2
    go_ret2
    exact ⟨rfl, rfl⟩
  · by_cases h2 : 200 < n
    · go_enter Tryz.func47, Tryz.ntmps47
      go_wp2
      go_ret2
      exact ⟨rfl, rfl⟩
    · have h3 : 64 < ex.size := by omega
      have h4 : (64 : Int) < ex.size := by omega
      clear h
      go_enter Tryz.func47, Tryz.ntmps47
      go_wp2
      go_ret2
      exact ⟨rfl, rfl⟩
set_option maxHeartbeats 1000000 in
theorem rwdraw_dead (n : Nat) (ex : ByteArray) (N Y : Nat) (bs : List Nat) (x : Wel) (cc : Nat) (w : World) (h : RwAt w N Y bs x cc) (hb : x.g.br = true) (hx : ex.size ≤ 64) (hn : n ≤ 200) :
    Calls Tryz.prog 47 #[.pointer (some ⟨Y, 0, none⟩), .int .i64 n, .string ex] w fun en w' => en = .returned (.tuple #[.string ⟨#[]⟩, .int .i64 6]) ∧ w' = w := by
  obtain ⟨bg, rg, GY, pv, h, _, _⟩ := h
  obtain ⟨_, _, c2, _, _⟩ := h.c
  obtain ⟨cv, hG⟩ := h.guard
  obtain ⟨_, _, _, _, g4⟩ := hG.c
  rw [h.gr.br, hb] at g4
  have hx' : ¬ (64 : Int) < ex.size := by omega
  have h1 : ¬ (n : Int) < 0 := by omega
  have h2 : ¬ (200 : Int) < n := by omega
  clear h hG
  go_enter Tryz.func47, Tryz.ntmps47
  go_wp2
  go_ret2
  exact ⟨rfl, rfl⟩
set_option maxHeartbeats 1000000 in
theorem rwdraw_little (n : Nat) (ex : ByteArray) (N Y : Nat) (bs : List Nat) (x : Wel) (cc : Nat) (w : World) (h : RwAt w N Y bs x cc) (hb : x.g.br = false) (hx : ex.size ≤ 64) (hn : n ≤ 200) (hs : needs x = true) (hk : x.kept.length < 32) :
    Calls Tryz.prog 47 #[.pointer (some ⟨Y, 0, none⟩), .int .i64 n, .string ex] w fun en w' => en = .returned (.tuple #[.string ⟨#[]⟩, .int .i64 7]) ∧ w' = w := by
  obtain ⟨bg, rg, GY, pv, h, _, _⟩ := h
  obtain ⟨_, _, c2, c3, c4⟩ := h.c
  obtain ⟨cv, hG⟩ := h.guard
  obtain ⟨_, _, _, _, g4⟩ := hG.c
  rw [h.gr.br, hb] at g4
  have hx' : ¬ (64 : Int) < ex.size := by omega
  have h1 : ¬ (n : Int) < 0 := by omega
  have h2 : ¬ (200 : Int) < n := by omega
  have hk' : ((toS x.kept).size : Int) < 32 := by rw [toS_size]; omega
  have hsrc := h.src
  clear h hG
  obtain ⟨k, nm, g, kept, s⟩ := x
  dsimp only at *
  generalize toS kept = tk at *
  cases s with
  | none =>
    obtain rfl : pv = .pointer none := hsrc
    go_enter Tryz.func47, Tryz.ntmps47
    go_wp2
    go_ret2
    exact ⟨rfl, rfl⟩
  | some f =>
    obtain ⟨Z, hpv, hF, _⟩ := hsrc
    subst hpv
    have z4 := hF.at_.c4
    rw [refOf_r] at z4
    have hr : 8 < f.r := of_decide_eq_true hs
    have hr' : (8 : Int) < f.r := by omega
    clear hF
    go_enter Tryz.func47, Tryz.ntmps47
    go_wp2
    go_ret2
    exact ⟨rfl, rfl⟩
/-- its source has turned -/
theorem RwW.srcs {w w' : World} {N Y Z : Nat} {bs bg : List Nat} {k : Int} {nm : ByteArray} {g : Gd} {kept : List Int} {f f' : Fnt} {rg : Rg} {GY : Nat} (h : RwW w N Y bs bg ⟨k, nm, g, kept, some f⟩ rg GY (.pointer (some ⟨Z, 0, none⟩))) (hF : RfAt w' Z f') (hE : Ex Z w w') : RwW w' N Y bs bg ⟨k, nm, g, kept, some f'⟩ rg GY (.pointer (some ⟨Z, 0, none⟩)) ∧ Turns w w' bs bs := by
  obtain ⟨Z', hpv, hF0, h1, h2, h3⟩ := h.src
  cases hpv
  have hz := hE.size
  refine ⟨⟨h.cells.other (hE.block Y (h.lo Y h.mem).2 h2.symm), h.guard.other hz (fun b hb => hE.block b (h.lo b (h.sub b hb).1).2 (fun e => h3 (e ▸ hb))), h.sub, ⟨Z, rfl, hF, h1, h2, h3⟩, h.mem, fun b hb => ⟨(h.lo b hb).1, by have := (h.lo b hb).2; omega⟩, h.gr, h.kB⟩, (Fr.of_ex hE).mono (fun q _ hq => by rw [hq]; exact h1), fun q hq => .inl hq⟩
set_option maxHeartbeats 1000000 in
theorem rwdraw_read (n : Nat) (ex : ByteArray) (N Y : Nat) (bs : List Nat) (k : Int) (nm : ByteArray) (g : Gd) (kept : List Int) (f : Fnt) (cc : Nat) (w : World) (h : RwAt w N Y bs ⟨k, nm, g, kept, some f⟩ cc) (hb : g.br = false) (hx : ex.size ≤ 64) (hn : n ≤ 200) (hr : f.r ≤ 8) :
    Calls Tryz.prog 47 #[.pointer (some ⟨Y, 0, none⟩), .int .i64 n, .string ex] w fun en w' => en = .returned (.tuple #[.string (toS (bytesF f.g n (bts ex))), .int .i64 0]) ∧ RwAt w' N Y bs ⟨k, nm, g, kept, some ⟨behindF f.g f.r n (bts ex), f.r + 1⟩⟩ cc ∧ Turns w w' bs bs := by
  obtain ⟨bg, rg, GY, pv, h, hcs, hD⟩ := h
  obtain ⟨_, _, c2, c3, c4⟩ := h.c
  obtain ⟨cv, hG⟩ := h.guard
  obtain ⟨_, _, _, _, g4⟩ := hG.c
  rw [h.gr.br, hb] at g4
  have hx' : ¬ (64 : Int) < ex.size := by omega
  have h1 : ¬ (n : Int) < 0 := by omega
  have h2 : ¬ (200 : Int) < n := by omega
  obtain ⟨Z, hpv, hF, _⟩ := h.src
  subst hpv
  have z4 := hF.at_.c4
  rw [refOf_r] at z4
  have hr' : ¬ (8 : Int) < f.r := by omega
  have R := hid (rread_any f n ex Z w hF hx hn hr)
  have H := hid h
  dsimp only at *
  clear h hG hF
  go_enter Tryz.func47, Tryz.ntmps47
  go_wp2_with fail
  refine R.out.mono ?_
  rintro en w1 ⟨rfl, hF1, hE1⟩
  have HS := hid (H.out.srcs hF1 hE1)
  clear hF1 hE1 R H
  go_wp2
  go_ret2
  exact ⟨rfl, ⟨bg, rg, GY, _, HS.out.1, hcs, hD⟩, HS.out.2⟩
/-- its samples are gone, its generator is a new one -/
theorem RwW.made {w w2 : World} {N Y Z : Nat} {bs bg : List Nat} {k : Int} {nm : ByteArray} {g : Gd} {rg : Rg} {GY : Nat} {pv : Value} {f : Fnt} (h : RwW w N Y bs bg ⟨k, nm, g, [], none⟩ rg GY pv) (hB : Below w.heap.size w w2) (hZ : w.heap.size ≤ Z) (hF : RfAt w2 Z f) : RwW (w2.setCell ⟨Y, 4, none⟩ (.pointer (some ⟨Z, 0, none⟩))) N Y (bs ++ [Z]) bg ⟨k, nm, g, [], some f⟩ rg GY (.pointer (some ⟨Z, 0, none⟩)) ∧ Turns w (w2.setCell ⟨Y, 4, none⟩ (.pointer (some ⟨Z, 0, none⟩))) bs (bs ++ [Z]) := by
  have h2 := h.below hB
  have hE := (Ex.refl Y w2).setCell 4 (.pointer (some ⟨Z, 0, none⟩))
  have hzE := hE.size
  have hYl := (h.lo Y h.mem).2
  have hZl := hF.lt
  have hNl := (h.lo Y h.mem).1
  refine ⟨⟨h2.cells.set 4 _, h2.guard.other hE.size (fun b hb => hE.block b (h2.lo b (h2.sub b hb).1).2 (h2.sub b hb).2), fun b hb => ⟨by simp [(h.sub b hb).1], (h.sub b hb).2⟩, ⟨Z, rfl, hF.other (hE.block Z hZl (by omega)), by simp, by omega, fun hh => by have := (h.lo Z (h.sub Z hh).1).2; omega⟩, by simp [h.mem], fun b hb => ?_, h.gr, h.kB⟩, ⟨((Fr.of_below hB).trans ((Fr.of_ex hE).mono (fun q _ hq => by rw [hq]; exact h.mem))), fun b hb => ?_⟩⟩
  · simp at hb
    rcases hb with hb | hb
    · exact ⟨(h2.lo b hb).1, by have := (h2.lo b hb).2; omega⟩
    · subst hb; exact ⟨by omega, by omega⟩
  · simp at hb
    rcases hb with hb | hb
    · exact .inl hb
    · exact .inr (by omega)
set_option maxRecDepth 20000 in
set_option maxHeartbeats 2000000 in
theorem rwdraw_seed (n : Nat) (ex : ByteArray) (N Y : Nat) (bs : List Nat) (x : Wel) (f : Fnt) (cc : Nat) (w : World) (h : RwAt w N Y bs x cc) (hb : x.g.br = false) (hx : ex.size ≤ 64) (hn : n ≤ 200) (hs : needs x = true) (hk : 32 ≤ x.kept.length) (hk2 : x.kept.length ≤ 200) (hki : x.k = 1 ∨ x.k = 2) (hnm : x.nm.size ≤ 64) (hf : seedW x = f) (hr : f.r ≤ 8) :
    Calls Tryz.prog 47 #[.pointer (some ⟨Y, 0, none⟩), .int .i64 n, .string ex] w fun en w' => en = .returned (.tuple #[.string (toS (bytesF f.g n (bts ex))), .int .i64 0]) ∧ ∃ bs', RwAt w' N Y bs' ⟨x.k, x.nm, x.g, [], some ⟨behindF f.g f.r n (bts ex), f.r + 1⟩⟩ cc ∧ Turns w w' bs bs' := by
  obtain ⟨bg, rg, GY, pv, h, hcs, hD⟩ := h
  obtain ⟨c0, c1, c2, c3, c4⟩ := h.c
  obtain ⟨cv, hG⟩ := h.guard
  obtain ⟨_, _, _, _, g4⟩ := hG.c
  rw [h.gr.br, hb] at g4
  have hx' : ¬ (64 : Int) < ex.size := by omega
  have h1 : ¬ (n : Int) < 0 := by omega
  have h2 : ¬ (200 : Int) < n := by omega
  have hkz : (toS x.kept).size = x.kept.length := toS_size _
  have hk' : ¬ ((toS x.kept).size : Int) < 32 := by omega
  have hsz : (toS x.kept).size ≤ 1125899906842624 := by omega
  have hbk := bts_toS x.kept h.kB
  have HH := hid (hash_any (toS x.kept) w hsz)
  rw [hbk] at HH
  have hil := shaI_len x.kept
  have hib := shaI_B x.kept
  obtain ⟨k, nm, g, kept, s⟩ := x
  dsimp only at *
  clear hkz hbk
  have hei := hid (bts_toS (shaI kept) hib)
  have hes : (toS (shaI kept)).size = 32 := by rw [toS_size, hil]
  have hmay : Hd (may (toS (shaI kept)) = true) := hid (by unfold may; rw [hes]; decide)
  have Hf := hid hf
  clear hf hil hib
  have H := hid h
  generalize hen : toS (shaI kept) = en0 at *
  generalize toS kept = tk at *
  clear hen
  cases s with
  | none =>
    obtain rfl : pv = .pointer none := h.src
    have hfe : Hd (f = ⟨seedOf k (bts en0 ++ bts nm), 1⟩) := hid (by rw [hei.out]; exact Hf.out.symm)
    clear h hG
    go_enter Tryz.func47, Tryz.ntmps47
    go_wp2_with fail
    refine HH.out.mono ?_
    rintro e w1 ⟨rfl, hB1⟩
    have h1' := H.out.below hB1
    obtain ⟨_, _, _, d3, _⟩ := h1'.c
    have f3 := h1'.cells.frozen 3
    have hW2 := h1'.keep [] (fun z hz => by simp at hz)
    rw [show toS [] = ⟨#[]⟩ from rfl] at hW2
    have HT2 := hid ((Turns.of_below bs hB1).trans (h1'.keep_turns (.string ⟨#[]⟩) 3))
    obtain ⟨e0, e1, e2, e3, e4⟩ := hW2.c
    have f4 := hW2.cells.frozen 4
    have HW2 := hid hW2
    dsimp only at d3 e0 e1 e2 e3 e4
    clear h1' hB1 HH hW2 H
    have hnb : ¬ 9223372036854775807 < 32 + nm.size := by omega
    go_wp2_with fail
    generalize w1.setCell ⟨Y, 3, none⟩ (.string ⟨#[]⟩) = w2 at *
    refine wp_region_E (S := fun w' => w'.cell? ⟨Y, 0, none⟩ = some (.int .i64 k) ∧ w'.cell? ⟨Y, 1, none⟩ = some (.string nm)) 14 (by kernel_rfl) ⟨e0, e1⟩ (fun hSw => ?_)
    refine wpAnyE_take (i := 0) (v := ?_) rfl (by decide +kernel) (by decide) (by decide +kernel) (by decide +kernel) (by decide +kernel) (fun _ _ _ h => h) (Or.inl ⟨by rfl, ?_⟩) hSw ?_
    rotate_left
    · intro w hw; go_simp; try with_reducible rfl
    simp only [Act.put, List.getElem_toArray, List.getElem_cons_zero, List.getElem_cons_succ, List.setIfInBounds_toArray, List.set_cons_zero, List.set_cons_succ]
    refine wpAnyE_take (i := 1) (v := ?_) rfl (by decide +kernel) (by decide) (by decide +kernel) (by decide +kernel) (by decide +kernel) (fun _ _ _ h => h) (Or.inl ⟨by rfl, ?_⟩) hSw ?_
    rotate_left
    · intro w hw; go_simp; try with_reducible rfl
    simp only [Act.put, List.getElem_toArray, List.getElem_cons_zero, List.getElem_cons_succ, List.setIfInBounds_toArray, List.set_cons_zero, List.set_cons_succ]
    refine wpAnyE_take (i := 2) (v := ?_) rfl (by decide +kernel) (by decide) (by decide +kernel) (by decide +kernel) (by decide +kernel) (fun _ _ _ h => h) (Or.inl ⟨by rfl, ?_⟩) hSw ?_
    rotate_left
    · intro w hw; go_simp; try with_reducible rfl
    simp only [Act.put, List.getElem_toArray, List.getElem_cons_zero, List.getElem_cons_succ, List.setIfInBounds_toArray, List.set_cons_zero, List.set_cons_succ]
    refine wpAnyE_take (i := 3) (v := ?_) rfl (by decide +kernel) (by decide) (by decide +kernel) (by decide +kernel) (by decide +kernel) (fun _ _ _ h => h) (Or.inl ⟨by rfl, ?_⟩) hSw ?_
    rotate_left
    · intro w hw; go_simp; try with_reducible rfl
    simp only [Act.put, List.getElem_toArray, List.getElem_cons_zero, List.getElem_cons_succ, List.setIfInBounds_toArray, List.set_cons_zero, List.set_cons_succ]
    refine wpAnyE_take (i := 4) (v := ?_) rfl (by decide +kernel) (by decide) (by decide +kernel) (by decide +kernel) (by decide +kernel) (fun _ _ _ h => h) (Or.inl ⟨by rfl, ?_⟩) hSw ?_
    rotate_left
    · intro w hw; have hcell := hw.1; clear hw; go_simp; try with_reducible rfl
    simp only [Act.put, List.getElem_toArray, List.getElem_cons_zero, List.getElem_cons_succ, List.setIfInBounds_toArray, List.set_cons_zero, List.set_cons_succ]
    refine wpAnyE_take (i := 5) (v := ?_) rfl (by decide +kernel) (by decide) (by decide +kernel) (by decide +kernel) (by decide +kernel) (fun _ _ _ h => h) (Or.inl ⟨by rfl, ?_⟩) hSw ?_
    rotate_left
    · intro w hw; go_simp; try with_reducible rfl
    simp only [Act.put, List.getElem_toArray, List.getElem_cons_zero, List.getElem_cons_succ, List.setIfInBounds_toArray, List.set_cons_zero, List.set_cons_succ]
    refine wpAnyE_take (i := 6) (v := ?_) rfl (by decide +kernel) (by decide) (by decide +kernel) (by decide +kernel) (by decide +kernel) (fun _ _ _ h => h) (Or.inl ⟨by rfl, ?_⟩) hSw ?_
    rotate_left
    · intro w hw; go_simp; try with_reducible rfl
    simp only [Act.put, List.getElem_toArray, List.getElem_cons_zero, List.getElem_cons_succ, List.setIfInBounds_toArray, List.set_cons_zero, List.set_cons_succ]
    refine wpAnyE_take (i := 7) (v := ?_) rfl (by decide +kernel) (by decide) (by decide +kernel) (by decide +kernel) (by decide +kernel) (fun _ _ _ h => h) (Or.inl ⟨by rfl, ?_⟩) hSw ?_
    rotate_left
    · intro w hw; go_simp; try with_reducible rfl
    simp only [Act.put, List.getElem_toArray, List.getElem_cons_zero, List.getElem_cons_succ, List.setIfInBounds_toArray, List.set_cons_zero, List.set_cons_succ]
    refine wpAnyE_take (i := 8) (v := ?_) rfl (by decide +kernel) (by decide) (by decide +kernel) (by decide +kernel) (by decide +kernel) (fun _ _ _ h => h) (Or.inl ⟨by rfl, ?_⟩) hSw ?_
    rotate_left
    · intro w hw; go_simp; try with_reducible rfl
    simp only [Act.put, List.getElem_toArray, List.getElem_cons_zero, List.getElem_cons_succ, List.setIfInBounds_toArray, List.set_cons_zero, List.set_cons_succ]
    refine wpAnyE_take (i := 9) (v := ?_) rfl (by decide +kernel) (by decide) (by decide +kernel) (by decide +kernel) (by decide +kernel) (fun _ _ _ h => h) (Or.inl ⟨by rfl, ?_⟩) hSw ?_
    rotate_left
    · intro w hw; have hcell := hw.2; clear hw; go_simp; try with_reducible rfl
    simp only [Act.put, List.getElem_toArray, List.getElem_cons_zero, List.getElem_cons_succ, List.setIfInBounds_toArray, List.set_cons_zero, List.set_cons_succ]
    refine wpAnyE_take (i := 10) (v := ?_) rfl (by decide +kernel) (by decide) (by decide +kernel) (by decide +kernel) (by decide +kernel) (fun _ _ _ h => h) (Or.inl ⟨by rfl, ?_⟩) hSw ?_
    rotate_left
    · intro w hw; go_simp; try with_reducible rfl
    simp only [Act.put, List.getElem_toArray, List.getElem_cons_zero, List.getElem_cons_succ, List.setIfInBounds_toArray, List.set_cons_zero, List.set_cons_succ]
    refine wpAnyE_one (i := 11) (by kernel_rfl) rfl (fun K hK => ?_)
    go_simp
    refine (made_any k (en0 ++ nm) w2.drew hki (by rw [ByteArray.size_append]; omega)).mono ?_
    rintro e w3 ⟨Z, rfl, hZ, hF3, hB3⟩
    have hB3' : Below w2.heap.size w2 w3 := ⟨hB3.os, hB3.tape, hB3.output, hB3.size, hB3.block⟩
    rw [bts_append, ← hfe.out] at hF3
    have hW3 := HW2.out.below hB3'
    obtain ⟨i0, i1, _, _, i4⟩ := hW3.c
    have hSw3 : w3.cell? ⟨Y, 0, none⟩ = some (.int .i64 k) ∧ w3.cell? ⟨Y, 1, none⟩ = some (.string nm) := ⟨i0, i1⟩
    have fr4 := hW3.cells.frozen 4
    obtain ⟨m1, m2⟩ := HW2.out.made hB3' hZ hF3
    have HW4 := hid m1
    have HT4 := hid (HT2.out.trans m2)
    refine hK.out _ _ (fun _ => hSw3) ?_
    replace hSw := hSw3
    clear hK K hB3 hB3' hW3 m1 m2 HW2 HT2 hF3 hSw3 e0 e1 e2 e3 e4 f3 f4
    refine wpAnyE_one (i := 12) (by kernel_rfl) rfl (fun K hK => ?_)
    go_simp
    refine hK.out _ _ (fun _ => hSw) ?_
    clear hK K
    refine wpAnyE_one (i := 13) (by kernel_rfl) rfl (fun K hK => ?_)
    go_simp
    refine hK.out _ _ (fun _ => hSw) ?_
    clear hK K
    refine wpAnyE_one (i := 14) (by kernel_rfl) rfl (fun K hK => ?_)
    go_simp
    refine hK.out _ _ (fun h => absurd rfl h) ?_
    clear hK K i0 i1 i4 fr4 hSw
    refine wpAnyE_done (by kernel_rfl) ?_ _
    generalize w3.setCell ⟨Y, 4, none⟩ (.pointer (some ⟨Z, 0, none⟩)) = w4 at *
    obtain ⟨_, _, _, _, j4⟩ := HW4.out.c
    obtain ⟨Z', hpv, hF4, _⟩ := HW4.out.src
    cases hpv
    have R := hid (rread_any f n ex Z w4 hF4 hx hn hr)
    clear hF4
    go_wp2_with fail
    refine R.out.mono ?_
    rintro en w5 ⟨rfl, hF5, hE5⟩
    obtain ⟨m1, m2⟩ := HW4.out.srcs hF5 hE5
    have HW5 := hid m1
    have HT5 := hid (HT4.out.trans m2)
    clear m1 m2 hF5 hE5 R HW4 HT4 j4
    go_wp2
    go_ret2
    exact ⟨rfl, _, ⟨bg, rg, GY, _, HW5.out, hcs, fun _ => rfl⟩, HT5.out⟩
  | some f0 =>
    obtain ⟨Z, hpv, hF, _⟩ := h.src
    subst hpv
    have z4 := hF.at_.c4
    rw [refOf_r] at z4
    have hr0 : 8 < f0.r := of_decide_eq_true hs
    have hr0' : (8 : Int) < f0.r := by omega
    have hfe : Hd (f = ⟨reseedOf f0.g (bts en0 ++ bts ⟨#[]⟩), 1⟩) := hid (by rw [hei.out, bts0', List.append_nil]; exact Hf.out.symm)
    clear h hG hF
    go_enter Tryz.func47, Tryz.ntmps47
    go_wp2_with fail
    refine HH.out.mono ?_
    rintro e w1 ⟨rfl, hB1⟩
    have h1' := H.out.below hB1
    obtain ⟨_, _, _, d3, _⟩ := h1'.c
    have f3 := h1'.cells.frozen 3
    have hW2 := h1'.keep [] (fun z hz => by simp at hz)
    rw [show toS [] = ⟨#[]⟩ from rfl] at hW2
    have HT2 := hid ((Turns.of_below bs hB1).trans (h1'.keep_turns (.string ⟨#[]⟩) 3))
    obtain ⟨e0, e1, e2, e3, e4⟩ := hW2.c
    have HW2 := hid hW2
    obtain ⟨Z', hpv, hF2, _⟩ := hW2.src
    cases hpv
    have RR := hid (rreseed_any f0 en0 ⟨#[]⟩ Z (w1.setCell ⟨Y, 3, none⟩ (.string ⟨#[]⟩)) hF2 hmay.out (by decide))
    rw [← hfe.out] at RR
    dsimp only at d3 e0 e1 e2 e3 e4
    clear h1' hB1 HH hW2 H hF2
    go_wp2_with fail
    generalize w1.setCell ⟨Y, 3, none⟩ (.string ⟨#[]⟩) = w2 at *
    refine RR.out.mono ?_
    rintro e w3 ⟨rfl, hF3, hE3⟩
    obtain ⟨m1, m2⟩ := HW2.out.srcs hF3 hE3
    have HW4 := hid m1
    have HT4 := hid (HT2.out.trans m2)
    obtain ⟨_, _, _, _, j4⟩ := HW4.out.c
    have R := hid (rread_any f n ex Z w3 hF3 hx hn hr)
    clear hF3 hE3 m1 m2 RR HW2 HT2
    go_wp2_with fail
    refine R.out.mono ?_
    rintro en w5 ⟨rfl, hF5, hE5⟩
    obtain ⟨m1, m2⟩ := HW4.out.srcs hF5 hE5
    have HW5 := hid m1
    have HT5 := hid (HT4.out.trans m2)
    clear m1 m2 hF5 hE5 R HW4 HT4 j4
    go_wp2
    go_ret2
    exact ⟨rfl, _, ⟨bg, rg, GY, _, HW5.out, hcs, fun _ => rfl⟩, HT5.out⟩
end Go.Proofs.YtbifmhbkmnofiaaGreat
namespace Go.Proofs.YtbifmhbkmnofiaaGreat
open Go.RowKit
set_option linter.unusedVariables false
set_option linter.unusedSimpArgs false
/-- whose a block is: nobody's, the script's, a step's own, the World's, a row's, a thing's -/
inductive Tag where
  | free
  | script
  | op
  | world
  | row (j : Nat)
  | sm (i : Nat)
  | so (i : Nat)
  | gu (i : Nat)
  | we (i : Nat)
  | li (i : Nat)
  | le (i : Nat)
/-- the World's, and all that hangs on it -/
def Tag.ours : Tag → Prop
  | .free => False
  | .script => False
  | .op => False
  | _ => True
def pt (b : Nat) : Value := .pointer (some ⟨b, 0, none⟩)
/-- pairs of pointers, in a row -/
def flatP (ps : List (Nat × Nat)) : List Value := ps.flatMap fun p => [pt p.1, pt p.2]
theorem flatP_len (ps : List (Nat × Nat)) : (flatP ps).length = ps.length * 2 := by
  induction ps with
  | nil => rfl
  | cons p r ih => show (pt p.1 :: pt p.2 :: flatP r).length = _; simp [ih]; omega
theorem flatP_append (a b : List (Nat × Nat)) : flatP (a ++ b) = flatP a ++ flatP b := by simp [flatP]
theorem flatP_one (p : Nat × Nat) : flatP [p] = [pt p.1, pt p.2] := rfl
theorem flatP_get (ps : List (Nat × Nat)) (i : Nat) (p : Nat × Nat) (h : ps[i]? = some p) : (flatP ps)[i * 2]? = some (pt p.1) ∧ (flatP ps)[i * 2 + 1]? = some (pt p.2) := by
  induction ps generalizing i with
  | nil => simp at h
  | cons q r ih =>
    have e : flatP (q :: r) = pt q.1 :: pt q.2 :: flatP r := rfl
    cases i with
    | zero => simp at h; subst h; rw [e]; exact ⟨rfl, rfl⟩
    | succ i =>
      have := ih i (by simpa using h)
      rw [e, show (i + 1) * 2 = i * 2 + 1 + 1 by omega]
      simpa using this
/-- a summer: the program's block, the document's, its bytes -/
structure Sm where
  X : Nat
  Y : Nat
  s : ByteArray
structure SmAt (w : World) (N : Nat) (S : Nat → Prop) (x : Sm) : Prop where
  st : StAt w x.X (feed DSN (bts x.s))
  rf : WbAt w x.Y [.string x.s]
  ne : x.X ≠ x.Y
  sx : S x.X
  sy : S x.Y
  nx : N ≤ x.X
  ny : N ≤ x.Y
/-- a source -/
structure So where
  A : Nat
  B : Nat
  Y : Nat
  f : Fnt
structure SoAt (w : World) (N : Nat) (S : Nat → Prop) (x : So) : Prop where
  ft : FtAt w x.A x.B x.f
  rf : RfAt w x.Y x.f
  ya : x.Y ≠ x.A
  yb : x.Y ≠ x.B
  sa : S x.A
  sb : S x.B
  sy : S x.Y
  na : N ≤ x.A
  nb : N ≤ x.B
  ny : N ≤ x.Y
/-- a guard, c: how many samples at most the document's has -/
structure Gu where
  A : Nat
  Y : Nat
  g : Gd
  c : Nat
structure GuW (w : World) (N : Nat) (S : Nat → Prop) (x : Gu) (bs : List Nat) (r : Rg) : Prop where
  gd : GdAt w x.A x.g
  rg : RgAt w N x.Y bs r
  gr : GR x.g r
  cs : r.cs.length ≤ x.c
  sb : ∀ b ∈ bs, S b
  na : x.A ∉ bs
  sa : S x.A
  nA : N ≤ x.A
def GuAt (w : World) (N : Nat) (S : Nat → Prop) (x : Gu) : Prop := ∃ bs rg, GuW w N S x bs rg
/-- a well -/
structure We where
  A : Nat
  Y : Nat
  x : Wel
  c : Nat
structure WeW (w : World) (N : Nat) (S : Nat → Prop) (x : We) (bs cs : List Nat) : Prop where
  wl : WellAt w N x.A bs x.x
  rw : RwAt w N x.Y cs x.x x.c
  ok : x.x.ok
  sb : ∀ b ∈ bs, S b
  sc : ∀ b ∈ cs, S b
  dj : ∀ b ∈ bs, b ∉ cs
def WeAt (w : World) (N : Nat) (S : Nat → Prop) (x : We) : Prop := ∃ bs cs, WeW w N S x bs cs
/-- a list that came out; one that was lent -/
structure LiAt (w : World) (N : Nat) (S : Nat → Prop) (x : Came) : Prop where
  fl : FL w x.v x.n (dgt x.m)
  m0 : 0 ≤ x.m
  m1 : x.m ≤ 9223372036854775807
  n1 : x.n ≤ 9223372036854775807
  ob : ∀ b, x.v.ownBlock = some b → S b ∧ N ≤ b ∧ b < w.heap.size
structure LeAt (w : World) (N : Nat) (S : Nat → Prop) (x : Lent) : Prop where
  fl : FL w x.v x.n (fun _ => 251)
  n1 : x.n ≤ 9223372036854775807
  ob : ∀ b, x.v.ownBlock = some b → S b ∧ N ≤ b ∧ b < w.heap.size
/-- the blocks of S are as they were -/
structure Kept (w w' : World) (S S' : Nat → Prop) : Prop where
  size : w.heap.size ≤ w'.heap.size
  at_ : ∀ b, S b → b < w.heap.size → w'.heap[b]? = w.heap[b]? ∧ S' b
theorem SmAt.kept {w w' : World} {N : Nat} {S S' : Nat → Prop} {x : Sm} (h : SmAt w N S x) (k : Kept w w' S S') : SmAt w' N S' x :=
  ⟨h.st.other (k.at_ _ h.sx h.st.lt).1, h.rf.other (k.at_ _ h.sy h.rf.lt).1, h.ne, (k.at_ _ h.sx h.st.lt).2, (k.at_ _ h.sy h.rf.lt).2, h.nx, h.ny⟩
theorem SoAt.kept {w w' : World} {N : Nat} {S S' : Nat → Prop} {x : So} (h : SoAt w N S x) (k : Kept w w' S S') : SoAt w' N S' x :=
  ⟨h.ft.other (k.at_ _ h.sa h.ft.lt).1 (k.at_ _ h.sb h.ft.gen.lt).1, h.rf.other (k.at_ _ h.sy h.rf.lt).1, h.ya, h.yb, (k.at_ _ h.sa h.ft.lt).2, (k.at_ _ h.sb h.ft.gen.lt).2, (k.at_ _ h.sy h.rf.lt).2, h.na, h.nb, h.ny⟩
theorem GdAt.lt {w : World} {A : Nat} {g : Gd} (h : GdAt w A g) : A < w.heap.size := WsAt.lt h
theorem RgAt.lo {w : World} {N Y : Nat} {bs : List Nat} {g : Rg} (h : RgAt w N Y bs g) : ∀ b ∈ bs, N ≤ b ∧ b < w.heap.size := by
  obtain ⟨cv, h⟩ := h
  exact h.lo
theorem RgAt.mem {w : World} {N Y : Nat} {bs : List Nat} {g : Rg} (h : RgAt w N Y bs g) : Y ∈ bs := by
  obtain ⟨cv, h⟩ := h
  exact h.mem
theorem WellAt.lo {w : World} {N A : Nat} {bs : List Nat} {x : Wel} (h : WellAt w N A bs x) : ∀ b ∈ bs, N ≤ b ∧ b < w.heap.size := by
  obtain ⟨_, _, h⟩ := h
  exact h.lo
theorem WellAt.mem {w : World} {N A : Nat} {bs : List Nat} {x : Wel} (h : WellAt w N A bs x) : A ∈ bs := by
  obtain ⟨_, _, h⟩ := h
  exact h.mem
theorem RwAt.lo {w : World} {N Y : Nat} {bs : List Nat} {x : Wel} {c : Nat} (h : RwAt w N Y bs x c) : ∀ b ∈ bs, N ≤ b ∧ b < w.heap.size := by
  obtain ⟨_, _, _, _, h, _⟩ := h
  exact h.lo
theorem RwAt.mem {w : World} {N Y : Nat} {bs : List Nat} {x : Wel} {c : Nat} (h : RwAt w N Y bs x c) : Y ∈ bs := by
  obtain ⟨_, _, _, _, h, _⟩ := h
  exact h.mem
theorem GuAt.kept {w w' : World} {N : Nat} {S S' : Nat → Prop} {x : Gu} (h : GuAt w N S x) (k : Kept w w' S S') : GuAt w' N S' x := by
  obtain ⟨bs, rg, h⟩ := h
  exact ⟨bs, rg, ⟨WsAt.other h.gd (k.at_ _ h.sa h.gd.lt).1, h.rg.other k.size (fun b hb => (k.at_ b (h.sb b hb) (h.rg.lo b hb).2).1), h.gr, h.cs, fun b hb => (k.at_ b (h.sb b hb) (h.rg.lo b hb).2).2, h.na, (k.at_ _ h.sa h.gd.lt).2, h.nA⟩⟩
theorem WeAt.kept {w w' : World} {N : Nat} {S S' : Nat → Prop} {x : We} (h : WeAt w N S x) (k : Kept w w' S S') : WeAt w' N S' x := by
  obtain ⟨bs, cs, h⟩ := h
  exact ⟨bs, cs, ⟨h.wl.other k.size (fun b hb => (k.at_ b (h.sb b hb) (h.wl.lo b hb).2).1), h.rw.other k.size (fun b hb => (k.at_ b (h.sc b hb) (h.rw.lo b hb).2).1), h.ok, fun b hb => (k.at_ b (h.sb b hb) (h.wl.lo b hb).2).2, fun b hb => (k.at_ b (h.sc b hb) (h.rw.lo b hb).2).2, h.dj⟩⟩
theorem LiAt.kept {w w' : World} {N : Nat} {S S' : Nat → Prop} {x : Came} (h : LiAt w N S x) (k : Kept w w' S S') : LiAt w' N S' x :=
  ⟨h.fl.other (fun b hb => (k.at_ b (h.ob b hb).1 (h.ob b hb).2.2).1), h.m0, h.m1, h.n1, fun b hb => ⟨(k.at_ b (h.ob b hb).1 (h.ob b hb).2.2).2, (h.ob b hb).2.1, by have := (h.ob b hb).2.2; have := k.size; omega⟩⟩
theorem LeAt.kept {w w' : World} {N : Nat} {S S' : Nat → Prop} {x : Lent} (h : LeAt w N S x) (k : Kept w w' S S') : LeAt w' N S' x :=
  ⟨h.fl.other (fun b hb => (k.at_ b (h.ob b hb).1 (h.ob b hb).2.2).1), h.n1, fun b hb => ⟨(k.at_ b (h.ob b hb).1 (h.ob b hb).2.2).2, (h.ob b hb).2.1, by have := (h.ob b hb).2.2; have := k.size; omega⟩⟩
/-- all that a script has made, as it stands beside the World's seven lists -/
structure Sta where
  v0 : Value
  v1 : Value
  v2 : Value
  v3 : Value
  v4 : Value
  v5 : Value
  v6 : Value
  sms : List Sm
  sos : List So
  gus : List Gu
  wes : List We
  lis : List Came
  les : List Lent
def Sta.vs (t : Sta) : List Value := [t.v0, t.v1, t.v2, t.v3, t.v4, t.v5, t.v6]
/-- a row of the World's -/
structure RowOk (ex : Tag → Prop) (w : World) (N : Nat) (own : Nat → Tag) (j : Nat) (v : Value) (e : TypeId) (size n : Nat) (xs : List Value) : Prop where
  own_ : ¬ ex (.row j) → w.ownsRow N e size v n xs
  tag : ∀ b, v.ownBlock = some b → own b = .row j ∧ N ≤ b ∧ b < w.heap.size
/-- how many of each at most, behind k steps -/
structure Few (k : Nat) (t : Sta) : Prop where
  sms : t.sms.length ≤ k
  sos : t.sos.length ≤ k
  gus : t.gus.length ≤ k
  wes : t.wes.length ≤ k
  lis : t.lis.length ≤ 4 * k
  les : t.les.length ≤ k
  txt : ∀ x ∈ t.sms, x.s.size ≤ 300 * k
  cgu : ∀ x ∈ t.gus, x.c ≤ 200 * k
  cwe : ∀ x ∈ t.wes, x.c ≤ 200 * k
/-- the World, but for what bears a tag of ex -/
structure Inv (ex : Tag → Prop) (w : World) (N Wb k : Nat) (own : Nat → Tag) (t : Sta) : Prop where
  wbt : own Wb = .world
  wlo : N ≤ Wb ∧ Wb < w.heap.size
  wb : ¬ ex .world → WbAt w Wb t.vs
  r0 : RowOk ex w N own 0 t.v0 54 2 t.sms.length (flatP (t.sms.map fun x => (x.X, x.Y)))
  r1 : RowOk ex w N own 1 t.v1 69 2 t.sos.length (flatP (t.sos.map fun x => (x.A, x.Y)))
  r2 : RowOk ex w N own 2 t.v2 82 2 t.gus.length (flatP (t.gus.map fun x => (x.A, x.Y)))
  r3 : RowOk ex w N own 3 t.v3 92 2 t.wes.length (flatP (t.wes.map fun x => (x.A, x.Y)))
  r4 : RowOk ex w N own 4 t.v4 41 1 t.lis.length (t.lis.map (·.v))
  r5 : RowOk ex w N own 5 t.v5 3 1 t.lis.length (t.lis.map fun x => .int .i64 x.m)
  r6 : RowOk ex w N own 6 t.v6 41 1 t.les.length (t.les.map (·.v))
  sm : ∀ i x, t.sms[i]? = some x → ¬ ex (.sm i) → SmAt w N (fun b => own b = .sm i) x
  so : ∀ i x, t.sos[i]? = some x → ¬ ex (.so i) → SoAt w N (fun b => own b = .so i) x
  gu : ∀ i x, t.gus[i]? = some x → ¬ ex (.gu i) → GuAt w N (fun b => own b = .gu i) x
  we : ∀ i x, t.wes[i]? = some x → ¬ ex (.we i) → WeAt w N (fun b => own b = .we i) x
  li : ∀ i x, t.lis[i]? = some x → ¬ ex (.li i) → LiAt w N (fun b => own b = .li i) x
  le : ∀ i x, t.les[i]? = some x → ¬ ex (.le i) → LeAt w N (fun b => own b = .le i) x
  few : Few k t
theorem RowOk.fr {ex : Tag → Prop} {w w' : World} {N : Nat} {own own' : Nat → Tag} {j : Nat} {v : Value} {e : TypeId} {size n : Nat} {xs : List Value} {S : Nat → Prop} (h : RowOk ex w N own j v e size n xs) (hF : Fr S w w') (hS : ∀ b, b < w.heap.size → S b → ex (own b)) (ho : ∀ b, b < w.heap.size → own' b = own b) : RowOk ex w' N own' j v e size n xs := by
  refine ⟨fun hx => owns_other (h.own_ hx) (fun b hb => ?_), fun b hb => ?_⟩
  · obtain ⟨h1, h2, h3⟩ := h.tag b hb
    exact hF.block b h3 (fun hh => hx (by have := hS b h3 hh; rwa [h1] at this))
  · obtain ⟨h1, h2, h3⟩ := h.tag b hb
    exact ⟨by rw [ho b h3]; exact h1, h2, by have := hF.size; omega⟩
theorem Kept.of_fr {ex : Tag → Prop} {w w' : World} {own own' : Nat → Tag} {S : Nat → Prop} {g : Tag} (hF : Fr S w w') (hS : ∀ b, b < w.heap.size → S b → ex (own b)) (ho : ∀ b, b < w.heap.size → own' b = own b) (hg : ¬ ex g) : Kept w w' (fun b => own b = g) (fun b => own' b = g) :=
  ⟨hF.size, fun b hb hl => ⟨hF.block b hl (fun hh => hg (by have := hS b hl hh; rwa [hb] at this)), by rw [ho b hl]; exact hb⟩⟩
/-- what has no tag of ex is as it was -/
theorem Inv.fr {ex : Tag → Prop} {w w' : World} {N Wb k : Nat} {own own' : Nat → Tag} {t : Sta} {S : Nat → Prop} (h : Inv ex w N Wb k own t) (hF : Fr S w w') (hS : ∀ b, b < w.heap.size → S b → ex (own b)) (ho : ∀ b, b < w.heap.size → own' b = own b) : Inv ex w' N Wb k own' t where
  wbt := by rw [ho Wb h.wlo.2]; exact h.wbt
  wlo := ⟨h.wlo.1, by have := h.wlo.2; have := hF.size; omega⟩
  wb := fun hx => (h.wb hx).other (hF.block Wb h.wlo.2 (fun hh => hx (by have := hS Wb h.wlo.2 hh; rwa [h.wbt] at this)))
  r0 := h.r0.fr hF hS ho
  r1 := h.r1.fr hF hS ho
  r2 := h.r2.fr hF hS ho
  r3 := h.r3.fr hF hS ho
  r4 := h.r4.fr hF hS ho
  r5 := h.r5.fr hF hS ho
  r6 := h.r6.fr hF hS ho
  sm := fun i x hx he => (h.sm i x hx he).kept (Kept.of_fr hF hS ho he)
  so := fun i x hx he => (h.so i x hx he).kept (Kept.of_fr hF hS ho he)
  gu := fun i x hx he => (h.gu i x hx he).kept (Kept.of_fr hF hS ho he)
  we := fun i x hx he => (h.we i x hx he).kept (Kept.of_fr hF hS ho he)
  li := fun i x hx he => (h.li i x hx he).kept (Kept.of_fr hF hS ho he)
  le := fun i x hx he => (h.le i x hx he).kept (Kept.of_fr hF hS ho he)
  few := h.few
theorem RowOk.weak {ex ex' : Tag → Prop} {w : World} {N : Nat} {own : Nat → Tag} {j : Nat} {v : Value} {e : TypeId} {size n : Nat} {xs : List Value} (h : RowOk ex w N own j v e size n xs) (he : ∀ g, ex g → ex' g) : RowOk ex' w N own j v e size n xs := ⟨fun hx => h.own_ (fun hh => hx (he _ hh)), h.tag⟩
theorem Inv.weak {ex ex' : Tag → Prop} {w : World} {N Wb k : Nat} {own : Nat → Tag} {t : Sta} (h : Inv ex w N Wb k own t) (he : ∀ g, ex g → ex' g) : Inv ex' w N Wb k own t where
  wbt := h.wbt
  wlo := h.wlo
  wb := fun hx => h.wb (fun hh => hx (he _ hh))
  r0 := h.r0.weak he
  r1 := h.r1.weak he
  r2 := h.r2.weak he
  r3 := h.r3.weak he
  r4 := h.r4.weak he
  r5 := h.r5.weak he
  r6 := h.r6.weak he
  sm := fun i x hx hn => h.sm i x hx (fun hh => hn (he _ hh))
  so := fun i x hx hn => h.so i x hx (fun hh => hn (he _ hh))
  gu := fun i x hx hn => h.gu i x hx (fun hh => hn (he _ hh))
  we := fun i x hx hn => h.we i x hx (fun hh => hn (he _ hh))
  li := fun i x hx hn => h.li i x hx (fun hh => hn (he _ hh))
  le := fun i x hx hn => h.le i x hx (fun hh => hn (he _ hh))
  few := h.few
/-- nothing is left out -/
def noTag : Tag → Prop := fun _ => False
theorem Few.mono {k k' : Nat} {t : Sta} (h : Few k t) (hk : k ≤ k') : Few k' t :=
  ⟨by have := h.sms; omega, by have := h.sos; omega, by have := h.gus; omega, by have := h.wes; omega, by have := h.lis; omega, by have := h.les; omega, fun x hx => by have := h.txt x hx; omega, fun x hx => by have := h.cgu x hx; omega, fun x hx => by have := h.cwe x hx; omega⟩
theorem Inv.few_ {ex : Tag → Prop} {w : World} {N Wb k k' : Nat} {own : Nat → Tag} {t : Sta} (h : Inv ex w N Wb k own t) (hk : Few k' t) : Inv ex w N Wb k' own t := { h with few := hk }
end Go.Proofs.YtbifmhbkmnofiaaGreat
