import Derived.Test.YtbifmhbkmnofiaaGreatMl
namespace Go.Proofs.YtbifmhbkmnofiaaGreat
open Go.RowKit
set_option linter.unusedVariables false
set_option linter.unusedSimpArgs false
def reseedOf : Gen → List Int → Gen
  | .m g, xs => .m (stirG g xs)
  | .s g, xs => .s (reseedS g xs)
theorem reseedOf_ok {g : Gen} (h : g.ok) (xs : List Int) : (reseedOf g xs).ok := by
  cases g with
  | m g => exact stirG_ok h xs
  | s g => exact reseedS_ok g xs
theorem kind_m (g g' : MG) (r : Nat) : (Gen.m g').kind = (⟨.m g, r⟩ : Fnt).g.kind := rfl
theorem kind_s (g g' : SG) (r : Nat) : (Gen.s g').kind = (⟨.s g, r⟩ : Fnt).g.kind := rfl
theorem ok_m {g : MG} (h : g.ok) : (Gen.m g).ok := h
theorem ok_s {g : SG} (h : g.ok) : (Gen.s g).ok := h
theorem at_m {w : World} {B : Nat} {g : MG} (h : MgAt w B g) : GenAt w B (.m g) := h
theorem at_s {w : World} {B : Nat} {g : SG} (h : SgAt w B g) : GenAt w B (.s g) := h
theorem of_m {w : World} {B : Nat} {g : MG} (h : GenAt w B (.m g)) : MgAt w B g := h
theorem of_s {w : World} {B : Nat} {g : SG} (h : GenAt w B (.s g)) : SgAt w B g := h
theorem FtAt.gset {w w' : World} {A B : Nat} {f : Fnt} {g' : Gen} (h : FtAt w A B f) (hE : Ex B w w') (hg : GenAt w' B g') (hk : g'.kind = f.g.kind) (hok : g'.ok) : FtAt w' A B ⟨g', f.r⟩ := by
  obtain ⟨t, hc⟩ := h.cells
  exact ⟨⟨t, by rw [hE.block A h.lt h.ne, hc, hk]⟩, hg, h.ne, hok⟩
set_option maxRecDepth 20000 in
set_option maxHeartbeats 1000000 in
theorem reseed_m (g : MG) (r : Nat) (e x : ByteArray) (A B : Nat) (w : World) (hF : FtAt w A B ⟨.m g, r⟩) (he : may e = true) (hx : x.size ≤ 64) :
    Calls Tryz.prog 31 #[.pointer (some ⟨A, 0, none⟩), .string e, .string x] w fun en w' => en = .returned (.int .i64 0) ∧ FtAt w' A B ⟨.m (stirG g (bts e ++ bts x)), 1⟩ ∧ Ex2 A B w w' := by
  have hes : 16 ≤ e.size ∧ e.size ≤ 64 := of_decide_eq_true he
  have hsz : (e ++ x).size ≤ 200 := by rw [ByteArray.size_append]; omega
  have hbt := hid (bts_append e x)
  have hme := Tryz.mReseed1
  have c0 := hF.cell0
  have hx' : (x.size : Int) ≤ 64 := by omega
  have HF := hid hF
  clear hF
  go_enter Tryz.func31, Tryz.ntmps31
  go_wp2_with fail
  refine (maySeed_any e _ (by omega)).mono ?_
  rintro en w1 ⟨rfl, rfl⟩
  rw [he]
  simp only [Gen.kind] at c0
  go_wp2_with (refine wpList_bytes rfl _ rfl (e ++ x) rfl ?_; intro w2 cap hB2 hz2 hb2)
  have hbb : Byt w2 (.slice (some ⟨w1.heap.size, 0, none⟩) (e.size + x.size) cap) (bts e ++ bts x) := by
    have := hb2.out
    rw [hbt.out, ByteArray.size_append] at this
    exact this
  have hF2 := HF.out.below hB2
  have hlt := HF.out.gen.lt
  have hok : g.ok := HF.out.ok
  refine (mreseed_any g _ _ B _ hok (of_m hF2.gen) hbb.src (by simp only [List.length_append, bts_len]; omega) (fun ad n' c h _ => by simp at h; rw [← h.1]; simp; omega)).mono ?_
  rintro en w3 ⟨rfl, hS3, hE3⟩
  have hF3 := hF2.gset hE3 (at_m hS3) rfl (ok_m (stirG_ok hok _))
  have hE : Ex2 A B w1 w3 := (Ex2.of_below hB2).trans (Ex2.of_r hE3)
  have f1 := hF3.frozen 1
  have c1 := hF3.cell1
  have HF3 := hid hF3
  have HE := hid hE
  clear hF3 hF2 hE hE3 hS3 hbb hb2 hB2 c0 HF
  go_wp2
  go_ret
  exact ⟨rfl, HF3.out.setR 1, HE.out.trans (Ex2.of_l ((Ex.refl _ _).setCell _ _))⟩
set_option maxRecDepth 20000 in
set_option maxHeartbeats 1000000 in
theorem reseed_s (g : SG) (r : Nat) (e x : ByteArray) (A B : Nat) (w : World) (hF : FtAt w A B ⟨.s g, r⟩) (he : may e = true) (hx : x.size ≤ 64) :
    Calls Tryz.prog 31 #[.pointer (some ⟨A, 0, none⟩), .string e, .string x] w fun en w' => en = .returned (.int .i64 0) ∧ FtAt w' A B ⟨.s (reseedS g (bts e ++ bts x)), 1⟩ ∧ Ex2 A B w w' := by
  have hes : 16 ≤ e.size ∧ e.size ≤ 64 := of_decide_eq_true he
  have hsz : (e ++ x).size ≤ 200 := by rw [ByteArray.size_append]; omega
  have hbt := hid (bts_append e x)
  have hme := Tryz.mReseed2
  have c0 := hF.cell0
  have hx' : (x.size : Int) ≤ 64 := by omega
  have HF := hid hF
  clear hF
  go_enter Tryz.func31, Tryz.ntmps31
  go_wp2_with fail
  refine (maySeed_any e _ (by omega)).mono ?_
  rintro en w1 ⟨rfl, rfl⟩
  rw [he]
  simp only [Gen.kind] at c0
  go_wp2_with (refine wpList_bytes rfl _ rfl (e ++ x) rfl ?_; intro w2 cap hB2 hz2 hb2)
  have hbb : Byt w2 (.slice (some ⟨w1.heap.size, 0, none⟩) (e.size + x.size) cap) (bts e ++ bts x) := by
    have := hb2.out
    rw [hbt.out, ByteArray.size_append] at this
    exact this
  have hF2 := HF.out.below hB2
  have hlt := HF.out.gen.lt
  have hok : g.ok := HF.out.ok
  refine (sreseed_any g _ _ B _ hok (of_s hF2.gen) hbb.src (by simp only [List.length_append, bts_len]; omega)).mono ?_
  rintro en w3 ⟨rfl, hS3, hE3⟩
  have hF3 := hF2.gset hE3 (g' := .s (reseedS g (bts e ++ bts x))) (at_s hS3) (kind_s g _ r) (ok_s (reseedS_ok g (bts e ++ bts x)))
  have hE : Ex2 A B w1 w3 := (Ex2.of_below hB2).trans (Ex2.of_r hE3)
  have f1 := hF3.frozen 1
  have c1 := hF3.cell1
  have HF3 := hid hF3
  have HE := hid hE
  clear hF3 hF2 hE hE3 hS3 hbb hb2 hB2 c0 HF
  go_wp2
  go_ret
  exact ⟨rfl, HF3.out.setR 1, HE.out.trans (Ex2.of_l ((Ex.refl _ _).setCell _ _))⟩
set_option maxHeartbeats 1000000 in
theorem reseed_arg (e x : ByteArray) (A : Nat) (w : World) (h : may e = false ∨ 64 < x.size) (he : e.size ≤ 9223372036854775807) (hx : x.size ≤ 9223372036854775807) :
    Calls Tryz.prog 31 #[.pointer (some ⟨A, 0, none⟩), .string e, .string x] w fun en w' => en = .returned (.int .i64 2) ∧ w' = w := by
  go_enter Tryz.func31, Tryz.ntmps31
  go_wp2_with fail
  refine (maySeed_any e _ he).mono ?_
  rintro en w1 ⟨rfl, rfl⟩
  cases hme : may e with
  | false =>
    go_wp2
    go_ret
    exact ⟨rfl, rfl⟩
  | true =>
    rw [hme] at h
    have h2' : (64 : Int) < x.size := by
      rcases h with h | h
      · simp at h
      · omega
    clear h
    go_wp2
    go_ret
    exact ⟨rfl, rfl⟩
theorem wp_bytes {o : Oper} {a : Act} {w : World} {K : Act → World → Prop} {Q : Exit → Act → World → Prop} (x : Operand) (ho : o.op = .convert 9 41 x) (s : ByteArray) (hx : a.eval x = .string s)
    (h : ∀ w' cap, Below w.heap.size w w' → w'.heap.size = w.heap.size + 1 → Hd (Byt w' (.slice (some ⟨w.heap.size, 0, none⟩) s.size cap) (bts s)) → K (a.put o.dst (.slice (some ⟨w.heap.size, 0, none⟩) s.size cap)) w') : Oper.wp Tryz.prog o a w K Q := by
  unfold Oper.wp execOp
  simp only [ho, hx, Sem.run_bind, Lib.run_convert_string_bytes w 9 41 5 s Tryz.underlying9 Tryz.underlying41 Tryz.underlying5, Result.andThen_ok, Sem.run_pure]
  exact h _ _ (bytesW_below w 5 s) (Lib.bytesWorld_size w 5 s) ⟨bytesW_byt w 5 s _⟩
def bytesF (g : Gen) (n : Nat) (xs : List Int) : List Int := match g with
  | .m g => bytesM g n xs
  | .s g => bytesS g n xs
def behindF (g : Gen) (r n : Nat) (xs : List Int) : Gen := match g with
  | .m g => .m (behindM g n xs)
  | .s g => .s (behindS g xs r)
theorem bytesF_len {g : Gen} (h : g.ok) (n : Nat) (xs : List Int) : (bytesF g n xs).length = n := by
  cases g with
  | m g => exact bytesM_len h n xs
  | s g => exact bytesS_len g n xs
theorem bytesF_few {g : Gen} (h : g.ok) (n m : Nat) (xs : List Int) (hnm : n ≤ m) : bytesF g n xs = (bytesF g m xs).take n := by
  cases g with
  | m g => exact bytesM_few h n m xs hnm
  | s g => exact bytesS_few g n m xs hnm
theorem behindF_ok {g : Gen} (h : g.ok) (r n : Nat) (xs : List Int) : (behindF g r n xs).ok := by
  cases g with
  | m g => exact behindM_ok h n xs
  | s g => exact behindS_ok h xs r
/-- may a read be asked for so? -/
def mayR (n : Int) (x : ByteArray) : Bool := decide (0 ≤ n ∧ n ≤ 200 ∧ x.size ≤ 64)
theorem mayR_yes {n : Int} {x : ByteArray} (h0 : 0 ≤ n) (h1 : n ≤ 200) (h2 : x.size ≤ 64) : mayR n x = true := decide_eq_true ⟨h0, h1, h2⟩
theorem mayR_no {n : Int} {x : ByteArray} (h : n < 0 ∨ 200 < n ∨ 64 < x.size) : mayR n x = false := decide_eq_false (fun k => by omega)
set_option maxHeartbeats 400000 in
theorem mayRead_any (n : Int) (x : ByteArray) (w : World) (hx : x.size ≤ 9223372036854775807) : Calls Tryz.prog 64 #[.int .i64 n, .string x] w fun e w' => e = .returned (.bool (mayR n x)) ∧ w' = w := by
  by_cases h0 : 0 ≤ n
  · by_cases h1 : n ≤ 200
    · by_cases h2 : x.size ≤ 64
      · have h2' : (x.size : Int) ≤ 64 := by omega
        have hd := hid (mayR_yes h0 h1 h2)
        go_enter Tryz.func64, Tryz.ntmps64
        go_wp2
        go_ret
        exact ⟨by rw [hd.out]; rfl, rfl⟩
      · have h2' : ¬ (x.size : Int) ≤ 64 := by omega
        have hd := hid (mayR_no (n := n) (x := x) (by omega))
        go_enter Tryz.func64, Tryz.ntmps64
        go_wp2
        go_ret
        exact ⟨by rw [hd.out]; rfl, rfl⟩
    · have hd := hid (mayR_no (n := n) (x := x) (by omega))
      go_enter Tryz.func64, Tryz.ntmps64
      go_wp2
      go_ret
      exact ⟨by rw [hd.out]; rfl, rfl⟩
  · have hd := hid (mayR_no (n := n) (x := x) (by omega))
    go_enter Tryz.func64, Tryz.ntmps64
    go_wp2
    go_ret
    exact ⟨by rw [hd.out]; rfl, rfl⟩
set_option maxHeartbeats 400000 in
theorem spent_any (f : Fnt) (A B : Nat) (w : World) (hF : FtAt w A B f) : Calls Tryz.prog 65 #[.pointer (some ⟨A, 0, none⟩)] w fun e w' => e = .returned (.bool (decide (8 < f.r))) ∧ w' = w := by
  have c1 := hF.cell1
  clear hF
  generalize f.r = r at *
  by_cases hr : 8 < r
  · have hr' : (8 : Int) < r := by omega
    have hd := hid (decide_eq_true hr)
    go_enter Tryz.func65, Tryz.ntmps65
    go_wp2
    go_ret
    first | exact ⟨by rw [hd.out]; rfl, rfl⟩ | exact ⟨rfl, rfl⟩
  · have hr' : ¬ (8 : Int) < r := by omega
    have hd := hid (decide_eq_false hr)
    go_enter Tryz.func65, Tryz.ntmps65
    go_wp2
    go_ret
    first | exact ⟨by rw [hd.out]; rfl, rfl⟩ | exact ⟨rfl, rfl⟩
set_option maxRecDepth 20000 in
set_option maxHeartbeats 1000000 in
theorem read_m (g : MG) (r n : Nat) (x : ByteArray) (A B : Nat) (w : World) (hF : FtAt w A B ⟨.m g, r⟩) (hx : x.size ≤ 64) (hn : n ≤ 200) (hr : r ≤ 8) :
    Calls Tryz.prog 33 #[.pointer (some ⟨A, 0, none⟩), .int .i64 n, .string x] w fun en w' => ∃ gb, en = .returned (.tuple #[.slice (some ⟨gb, 0, none⟩) n n, .int .i64 0]) ∧ w.heap.size ≤ gb ∧ w'.heap[gb]? = some (.cells (ints .u8 (bytesM g n (bts x))) 5 (0, 0)) ∧ FtAt w' A B ⟨.m (behindM g n (bts x)), r + 1⟩ ∧ Ex2 A B w w' := by
  have hme := Tryz.mRead1
  have c1 := hF.cell1
  have c0 := hF.cell0
  simp only [Gen.kind] at c0
  dsimp only at c1
  have hx' : (x.size : Int) ≤ 64 := by omega
  have hn' : (n : Int) ≤ 200 := by omega
  have hr' : (r : Int) ≤ 8 := by omega
  have HF := hid hF
  clear hF
  go_enter Tryz.func33, Tryz.ntmps33
  go_wp2_with fail
  refine (mayRead_any (n : Int) x _ (by omega)).mono ?_
  rintro en w0 ⟨rfl, hw0⟩
  have hw1 := hw0.symm
  subst hw1
  clear hw0
  rw [mayR_yes (by omega) hn' hx]
  go_wp2_with fail
  refine (spent_any _ A B _ HF.out).mono ?_
  rintro en w0 ⟨rfl, hw0⟩
  have hw1 := hw0.symm
  subst hw1
  clear hw0
  rw [decide_eq_false (by dsimp only; omega)]
  go_wp2_with fail
  refine wp_region_held_drew (S := fun w => w.cell? ⟨A, 0, none⟩ = some (.iface 154 (.pointer (some ⟨B, 0, none⟩))) ∧ w.cell? ⟨A, 1, none⟩ = some (.int .u64 (r : Int))) (by kernel_rfl) ⟨c0, c1⟩ (fun hSw => ?_)
  refine wpAnyH_take (i := 0) (v := ?_) rfl (by decide +kernel) (by decide +kernel) (by decide +kernel) (fun _ _ _ h => h) (Or.inl ⟨by rfl, ?_⟩) hSw ?_
  rotate_left
  · intro w hw; go_simp; try with_reducible rfl
  simp only [Act.put, List.getElem_toArray, List.getElem_cons_zero, List.getElem_cons_succ, List.setIfInBounds_toArray, List.set_cons_zero, List.set_cons_succ]
  refine wpAnyH_take (i := 1) (v := ?_) rfl (by decide +kernel) (by decide +kernel) (by decide +kernel) (fun _ _ _ h => h) (Or.inl ⟨by rfl, ?_⟩) hSw ?_
  rotate_left
  · intro w hw; go_simp; try with_reducible rfl
  simp only [Act.put, List.getElem_toArray, List.getElem_cons_zero, List.getElem_cons_succ, List.setIfInBounds_toArray, List.set_cons_zero, List.set_cons_succ]
  refine wpAnyH_take (i := 2) (v := ?_) rfl (by decide +kernel) (by decide +kernel) (by decide +kernel) (fun _ _ _ h => h) (Or.inl ⟨by rfl, ?_⟩) hSw ?_
  rotate_left
  · intro w hw; go_simp; try with_reducible rfl
  simp only [Act.put, List.getElem_toArray, List.getElem_cons_zero, List.getElem_cons_succ, List.setIfInBounds_toArray, List.set_cons_zero, List.set_cons_succ]
  refine wpAnyH_take (i := 3) (v := ?_) rfl (by decide +kernel) (by decide +kernel) (by decide +kernel) (fun _ _ _ h => h) (Or.inl ⟨by rfl, ?_⟩) hSw ?_
  rotate_left
  · intro w hw; have hcell := hw.1; clear hw; go_simp; try with_reducible rfl
  simp only [Act.put, List.getElem_toArray, List.getElem_cons_zero, List.getElem_cons_succ, List.setIfInBounds_toArray, List.set_cons_zero, List.set_cons_succ]
  refine wpAnyH_take (i := 4) (v := ?_) rfl (by decide +kernel) (by decide +kernel) (by decide +kernel) (fun _ _ _ h => h) (Or.inl ⟨by rfl, ?_⟩) hSw ?_
  rotate_left
  · intro w hw; go_simp; try with_reducible rfl
  simp only [Act.put, List.getElem_toArray, List.getElem_cons_zero, List.getElem_cons_succ, List.setIfInBounds_toArray, List.set_cons_zero, List.set_cons_succ]
  refine wpAnyH_take (i := 5) (v := ?_) rfl (by decide +kernel) (by decide +kernel) (by decide +kernel) (fun _ _ _ h => h) (Or.inl ⟨by rfl, ?_⟩) hSw ?_
  rotate_left
  · intro w hw; go_simp; try with_reducible rfl
  simp only [Act.put, List.getElem_toArray, List.getElem_cons_zero, List.getElem_cons_succ, List.setIfInBounds_toArray, List.set_cons_zero, List.set_cons_succ]
  refine wpAnyH_take (i := 7) (v := ?_) rfl (by decide +kernel) (by decide +kernel) (by decide +kernel) (fun _ _ _ h => h) (Or.inl ⟨by rfl, ?_⟩) hSw ?_
  rotate_left
  · intro w hw; go_simp; try with_reducible rfl
  simp only [Act.put, List.getElem_toArray, List.getElem_cons_zero, List.getElem_cons_succ, List.setIfInBounds_toArray, List.set_cons_zero, List.set_cons_succ]
  refine wpAnyH_take (i := 8) (v := ?_) rfl (by decide +kernel) (by decide +kernel) (by decide +kernel) (fun _ _ _ h => h) (Or.inl ⟨by rfl, ?_⟩) hSw ?_
  rotate_left
  · intro w hw; go_simp; try with_reducible rfl
  simp only [Act.put, List.getElem_toArray, List.getElem_cons_zero, List.getElem_cons_succ, List.setIfInBounds_toArray, List.set_cons_zero, List.set_cons_succ]
  refine wpAnyH_take (i := 9) (v := ?_) rfl (by decide +kernel) (by decide +kernel) (by decide +kernel) (fun _ _ _ h => h) (Or.inl ⟨by rfl, ?_⟩) hSw ?_
  rotate_left
  · intro w hw; go_simp; try with_reducible rfl
  simp only [Act.put, List.getElem_toArray, List.getElem_cons_zero, List.getElem_cons_succ, List.setIfInBounds_toArray, List.set_cons_zero, List.set_cons_succ]
  refine wpAnyH_take (i := 10) (v := ?_) rfl (by decide +kernel) (by decide +kernel) (by decide +kernel) (fun _ _ _ h => h) (Or.inl ⟨by rfl, ?_⟩) hSw ?_
  rotate_left
  · intro w hw; have hcell := hw.2; clear hw; go_simp; try with_reducible rfl
  simp only [Act.put, List.getElem_toArray, List.getElem_cons_zero, List.getElem_cons_succ, List.setIfInBounds_toArray, List.set_cons_zero, List.set_cons_succ]
  refine wpAnyH_take (i := 11) (v := ?_) rfl (by decide +kernel) (by decide +kernel) (by decide +kernel) (fun _ _ _ h => h) (Or.inl ⟨by rfl, ?_⟩) hSw ?_
  rotate_left
  · intro w hw; go_simp; try with_reducible rfl
  simp only [Act.put, List.getElem_toArray, List.getElem_cons_zero, List.getElem_cons_succ, List.setIfInBounds_toArray, List.set_cons_zero, List.set_cons_succ]
  refine wpAnyH_take (i := 12) (v := ?_) rfl (by decide +kernel) (by decide +kernel) (by decide +kernel) (fun _ _ _ h => h) (Or.inl ⟨by rfl, ?_⟩) hSw ?_
  rotate_left
  · intro w hw; go_simp; try with_reducible rfl
  simp only [Act.put, List.getElem_toArray, List.getElem_cons_zero, List.getElem_cons_succ, List.setIfInBounds_toArray, List.set_cons_zero, List.set_cons_succ]
  refine wpAnyH_ready (rs := [6]) (by kernel_rfl) (by simp) ?_
  refine AllReadyH.cons rfl (fun K hK => ?_) AllReadyH.nil
  rw [if_pos (by rfl)]
  refine wp_bytes _ rfl x rfl ?_
  intro w2 cap hB2 hz2 hb2
  have hSw2 : w2.cell? ⟨A, 0, none⟩ = some (.iface 154 (.pointer (some ⟨B, 0, none⟩))) ∧ w2.cell? ⟨A, 1, none⟩ = some (.int .u64 (r : Int)) := by
    have hlt := HF.out.lt
    exact ⟨by rw [hB2.cell hlt]; exact hSw.1, by rw [hB2.cell hlt]; exact hSw.2⟩
  refine hK.out _ _ hSw2 (fun hSw => ?_)
  clear hK K
  have hbb : Byt w2 (.slice (some ⟨w.heap.size, 0, none⟩) x.size cap) (bts x) := hb2.out
  have hBw : Below w.heap.size w w2 := (Below.refl _ w).drew.trans hB2
  have hF2 : FtAt w2 A B ⟨.m g, r⟩ := HF.out.below hBw
  have hok : g.ok := HF.out.ok
  have hlt := HF.out.gen.lt
  have hE2 : Ex2 A B w w2 := (Ex2.refl A B w).drew.trans (Ex2.of_below hB2)
  have hz3 : w.heap.size < w2.heap.size := by rw [hz2]; exact Nat.lt_succ_self _
  clear HF hB2 hb2 hSw2 hBw
  simp only [Act.put, List.getElem_toArray, List.getElem_cons_zero, List.getElem_cons_succ, List.setIfInBounds_toArray, List.set_cons_zero, List.set_cons_succ]
  refine wpAnyH_ready (rs := [13]) (by kernel_rfl) (by simp) ?_
  refine AllReadyH.cons rfl (fun K hK => ?_) AllReadyH.nil
  go_simp
  refine (mread_any g n (r : Int) _ _ B _ hok (of_m hF2.gen) hbb.src (by rw [bts_len]; omega) (fun ad n' c h _ => by simp at h; rw [← h.1]; simp; omega) (by omega)).mono ?_
  rintro en w3 ⟨gb, rfl, hgb, hr3, hS3, hE3⟩
  have hF3 := hF2.gset hE3 (at_m hS3) (kind_m g _ r) (ok_m (behindM_ok hok n _))
  have hSw3 : w3.cell? ⟨A, 0, none⟩ = some (.iface 154 (.pointer (some ⟨B, 0, none⟩))) ∧ w3.cell? ⟨A, 1, none⟩ = some (.int .u64 (r : Int)) := ⟨hF3.cell0, hF3.cell1⟩
  refine hK.out _ _ hSw3 (fun hSw => ?_)
  clear hK K
  have hE4 := hE2.trans (Ex2.of_r hE3)
  have f1 := hF3.frozen 1
  have c3 := hSw3.2
  have HF3 := hid hF3
  have HE4 := hid hE4
  have Hr3 := hid hr3
  have hglt : gb < w3.heap.size := (Array.getElem?_eq_some_iff.1 hr3).1
  have hgA : gb ≠ A := by have := hF2.lt; omega
  clear hF3 hF2 hE4 hE2 hE3 hS3 hr3 hbb hSw3
  refine wpAnyH_take (i := 14) (v := ?_) rfl (by decide +kernel) (by decide +kernel) (by decide +kernel) (fun _ _ _ h => h) (Or.inl ⟨by rfl, ?_⟩) hSw ?_
  rotate_left
  · intro w hw; go_simp; try with_reducible rfl
  simp only [Act.put, List.getElem_toArray, List.getElem_cons_zero, List.getElem_cons_succ, List.setIfInBounds_toArray, List.set_cons_zero, List.set_cons_succ]
  refine wpAnyH_done (by kernel_rfl) ?_ _
  have hr1 : Hd (((r + 1 : Nat) : Int) = (r : Int) + 1) := hid (by omega)
  go_wp2
  go_ret2
  have h5 := HF3.out.setR (r + 1)
  rw [hr1.out] at h5
  refine ⟨gb, rfl, by omega, ?_, h5, HE4.out.trans (Ex2.of_l ((Ex.refl _ _).setCell _ _))⟩
  rw [Below.heap_setCell _ _ _ _ (by simpa using hgA)]
  exact Hr3.out
set_option maxRecDepth 20000 in
set_option maxHeartbeats 1000000 in
theorem read_s (g : SG) (r n : Nat) (x : ByteArray) (A B : Nat) (w : World) (hF : FtAt w A B ⟨.s g, r⟩) (hx : x.size ≤ 64) (hn : n ≤ 200) (hr : r ≤ 8) :
    Calls Tryz.prog 33 #[.pointer (some ⟨A, 0, none⟩), .int .i64 n, .string x] w fun en w' => ∃ gb, en = .returned (.tuple #[.slice (some ⟨gb, 0, none⟩) n n, .int .i64 0]) ∧ w.heap.size ≤ gb ∧ w'.heap[gb]? = some (.cells (ints .u8 (bytesS g n (bts x))) 5 (0, 0)) ∧ FtAt w' A B ⟨.s (behindS g (bts x) r), r + 1⟩ ∧ Ex2 A B w w' := by
  have hme := Tryz.mRead2
  have c1 := hF.cell1
  have c0 := hF.cell0
  simp only [Gen.kind] at c0
  dsimp only at c1
  have hx' : (x.size : Int) ≤ 64 := by omega
  have hn' : (n : Int) ≤ 200 := by omega
  have hr' : (r : Int) ≤ 8 := by omega
  have HF := hid hF
  clear hF
  go_enter Tryz.func33, Tryz.ntmps33
  go_wp2_with fail
  refine (mayRead_any (n : Int) x _ (by omega)).mono ?_
  rintro en w0 ⟨rfl, hw0⟩
  have hw1 := hw0.symm
  subst hw1
  clear hw0
  rw [mayR_yes (by omega) hn' hx]
  go_wp2_with fail
  refine (spent_any _ A B _ HF.out).mono ?_
  rintro en w0 ⟨rfl, hw0⟩
  have hw1 := hw0.symm
  subst hw1
  clear hw0
  rw [decide_eq_false (by dsimp only; omega)]
  go_wp2_with fail
  refine wp_region_held_drew (S := fun w => w.cell? ⟨A, 0, none⟩ = some (.iface 157 (.pointer (some ⟨B, 0, none⟩))) ∧ w.cell? ⟨A, 1, none⟩ = some (.int .u64 (r : Int))) (by kernel_rfl) ⟨c0, c1⟩ (fun hSw => ?_)
  refine wpAnyH_take (i := 0) (v := ?_) rfl (by decide +kernel) (by decide +kernel) (by decide +kernel) (fun _ _ _ h => h) (Or.inl ⟨by rfl, ?_⟩) hSw ?_
  rotate_left
  · intro w hw; go_simp; try with_reducible rfl
  simp only [Act.put, List.getElem_toArray, List.getElem_cons_zero, List.getElem_cons_succ, List.setIfInBounds_toArray, List.set_cons_zero, List.set_cons_succ]
  refine wpAnyH_take (i := 1) (v := ?_) rfl (by decide +kernel) (by decide +kernel) (by decide +kernel) (fun _ _ _ h => h) (Or.inl ⟨by rfl, ?_⟩) hSw ?_
  rotate_left
  · intro w hw; go_simp; try with_reducible rfl
  simp only [Act.put, List.getElem_toArray, List.getElem_cons_zero, List.getElem_cons_succ, List.setIfInBounds_toArray, List.set_cons_zero, List.set_cons_succ]
  refine wpAnyH_take (i := 2) (v := ?_) rfl (by decide +kernel) (by decide +kernel) (by decide +kernel) (fun _ _ _ h => h) (Or.inl ⟨by rfl, ?_⟩) hSw ?_
  rotate_left
  · intro w hw; go_simp; try with_reducible rfl
  simp only [Act.put, List.getElem_toArray, List.getElem_cons_zero, List.getElem_cons_succ, List.setIfInBounds_toArray, List.set_cons_zero, List.set_cons_succ]
  refine wpAnyH_take (i := 3) (v := ?_) rfl (by decide +kernel) (by decide +kernel) (by decide +kernel) (fun _ _ _ h => h) (Or.inl ⟨by rfl, ?_⟩) hSw ?_
  rotate_left
  · intro w hw; have hcell := hw.1; clear hw; go_simp; try with_reducible rfl
  simp only [Act.put, List.getElem_toArray, List.getElem_cons_zero, List.getElem_cons_succ, List.setIfInBounds_toArray, List.set_cons_zero, List.set_cons_succ]
  refine wpAnyH_take (i := 4) (v := ?_) rfl (by decide +kernel) (by decide +kernel) (by decide +kernel) (fun _ _ _ h => h) (Or.inl ⟨by rfl, ?_⟩) hSw ?_
  rotate_left
  · intro w hw; go_simp; try with_reducible rfl
  simp only [Act.put, List.getElem_toArray, List.getElem_cons_zero, List.getElem_cons_succ, List.setIfInBounds_toArray, List.set_cons_zero, List.set_cons_succ]
  refine wpAnyH_take (i := 5) (v := ?_) rfl (by decide +kernel) (by decide +kernel) (by decide +kernel) (fun _ _ _ h => h) (Or.inl ⟨by rfl, ?_⟩) hSw ?_
  rotate_left
  · intro w hw; go_simp; try with_reducible rfl
  simp only [Act.put, List.getElem_toArray, List.getElem_cons_zero, List.getElem_cons_succ, List.setIfInBounds_toArray, List.set_cons_zero, List.set_cons_succ]
  refine wpAnyH_take (i := 7) (v := ?_) rfl (by decide +kernel) (by decide +kernel) (by decide +kernel) (fun _ _ _ h => h) (Or.inl ⟨by rfl, ?_⟩) hSw ?_
  rotate_left
  · intro w hw; go_simp; try with_reducible rfl
  simp only [Act.put, List.getElem_toArray, List.getElem_cons_zero, List.getElem_cons_succ, List.setIfInBounds_toArray, List.set_cons_zero, List.set_cons_succ]
  refine wpAnyH_take (i := 8) (v := ?_) rfl (by decide +kernel) (by decide +kernel) (by decide +kernel) (fun _ _ _ h => h) (Or.inl ⟨by rfl, ?_⟩) hSw ?_
  rotate_left
  · intro w hw; go_simp; try with_reducible rfl
  simp only [Act.put, List.getElem_toArray, List.getElem_cons_zero, List.getElem_cons_succ, List.setIfInBounds_toArray, List.set_cons_zero, List.set_cons_succ]
  refine wpAnyH_take (i := 9) (v := ?_) rfl (by decide +kernel) (by decide +kernel) (by decide +kernel) (fun _ _ _ h => h) (Or.inl ⟨by rfl, ?_⟩) hSw ?_
  rotate_left
  · intro w hw; go_simp; try with_reducible rfl
  simp only [Act.put, List.getElem_toArray, List.getElem_cons_zero, List.getElem_cons_succ, List.setIfInBounds_toArray, List.set_cons_zero, List.set_cons_succ]
  refine wpAnyH_take (i := 10) (v := ?_) rfl (by decide +kernel) (by decide +kernel) (by decide +kernel) (fun _ _ _ h => h) (Or.inl ⟨by rfl, ?_⟩) hSw ?_
  rotate_left
  · intro w hw; have hcell := hw.2; clear hw; go_simp; try with_reducible rfl
  simp only [Act.put, List.getElem_toArray, List.getElem_cons_zero, List.getElem_cons_succ, List.setIfInBounds_toArray, List.set_cons_zero, List.set_cons_succ]
  refine wpAnyH_take (i := 11) (v := ?_) rfl (by decide +kernel) (by decide +kernel) (by decide +kernel) (fun _ _ _ h => h) (Or.inl ⟨by rfl, ?_⟩) hSw ?_
  rotate_left
  · intro w hw; go_simp; try with_reducible rfl
  simp only [Act.put, List.getElem_toArray, List.getElem_cons_zero, List.getElem_cons_succ, List.setIfInBounds_toArray, List.set_cons_zero, List.set_cons_succ]
  refine wpAnyH_take (i := 12) (v := ?_) rfl (by decide +kernel) (by decide +kernel) (by decide +kernel) (fun _ _ _ h => h) (Or.inl ⟨by rfl, ?_⟩) hSw ?_
  rotate_left
  · intro w hw; go_simp; try with_reducible rfl
  simp only [Act.put, List.getElem_toArray, List.getElem_cons_zero, List.getElem_cons_succ, List.setIfInBounds_toArray, List.set_cons_zero, List.set_cons_succ]
  refine wpAnyH_ready (rs := [6]) (by kernel_rfl) (by simp) ?_
  refine AllReadyH.cons rfl (fun K hK => ?_) AllReadyH.nil
  rw [if_pos (by rfl)]
  refine wp_bytes _ rfl x rfl ?_
  intro w2 cap hB2 hz2 hb2
  have hSw2 : w2.cell? ⟨A, 0, none⟩ = some (.iface 157 (.pointer (some ⟨B, 0, none⟩))) ∧ w2.cell? ⟨A, 1, none⟩ = some (.int .u64 (r : Int)) := by
    have hlt := HF.out.lt
    exact ⟨by rw [hB2.cell hlt]; exact hSw.1, by rw [hB2.cell hlt]; exact hSw.2⟩
  refine hK.out _ _ hSw2 (fun hSw => ?_)
  clear hK K
  have hbb : Byt w2 (.slice (some ⟨w.heap.size, 0, none⟩) x.size cap) (bts x) := hb2.out
  have hBw : Below w.heap.size w w2 := (Below.refl _ w).drew.trans hB2
  have hF2 : FtAt w2 A B ⟨.s g, r⟩ := HF.out.below hBw
  have hok : g.ok := HF.out.ok
  have hlt := HF.out.gen.lt
  have hE2 : Ex2 A B w w2 := (Ex2.refl A B w).drew.trans (Ex2.of_below hB2)
  have hz3 : w.heap.size < w2.heap.size := by rw [hz2]; exact Nat.lt_succ_self _
  clear HF hB2 hb2 hSw2 hBw
  simp only [Act.put, List.getElem_toArray, List.getElem_cons_zero, List.getElem_cons_succ, List.setIfInBounds_toArray, List.set_cons_zero, List.set_cons_succ]
  refine wpAnyH_ready (rs := [13]) (by kernel_rfl) (by simp) ?_
  refine AllReadyH.cons rfl (fun K hK => ?_) AllReadyH.nil
  go_simp
  refine (sread_any g n (r : Int) _ _ B _ hok (of_s hF2.gen) hbb.src (by rw [bts_len]; omega) (by omega) (by omega) (by omega)).mono ?_
  rintro en w3 ⟨gb, rfl, hgb, hr3, hS3, hE3⟩
  have hF3 := hF2.gset hE3 (at_s hS3) (kind_s g _ r) (ok_s (behindS_ok hok _ _))
  have hSw3 : w3.cell? ⟨A, 0, none⟩ = some (.iface 157 (.pointer (some ⟨B, 0, none⟩))) ∧ w3.cell? ⟨A, 1, none⟩ = some (.int .u64 (r : Int)) := ⟨hF3.cell0, hF3.cell1⟩
  refine hK.out _ _ hSw3 (fun hSw => ?_)
  clear hK K
  have hE4 := hE2.trans (Ex2.of_r hE3)
  have f1 := hF3.frozen 1
  have c3 := hSw3.2
  have HF3 := hid hF3
  have HE4 := hid hE4
  have Hr3 := hid hr3
  have hglt : gb < w3.heap.size := (Array.getElem?_eq_some_iff.1 hr3).1
  have hgA : gb ≠ A := by have := hF2.lt; omega
  clear hF3 hF2 hE4 hE2 hE3 hS3 hr3 hbb hSw3
  refine wpAnyH_take (i := 14) (v := ?_) rfl (by decide +kernel) (by decide +kernel) (by decide +kernel) (fun _ _ _ h => h) (Or.inl ⟨by rfl, ?_⟩) hSw ?_
  rotate_left
  · intro w hw; go_simp; try with_reducible rfl
  simp only [Act.put, List.getElem_toArray, List.getElem_cons_zero, List.getElem_cons_succ, List.setIfInBounds_toArray, List.set_cons_zero, List.set_cons_succ]
  refine wpAnyH_done (by kernel_rfl) ?_ _
  have hr1 : Hd (((r + 1 : Nat) : Int) = (r : Int) + 1) := hid (by omega)
  go_wp2
  go_ret2
  have h5 := HF3.out.setR (r + 1)
  rw [hr1.out] at h5
  refine ⟨gb, rfl, by omega, ?_, h5, HE4.out.trans (Ex2.of_l ((Ex.refl _ _).setCell _ _))⟩
  rw [Below.heap_setCell _ _ _ _ (by simpa using hgA)]
  exact Hr3.out
end Go.Proofs.YtbifmhbkmnofiaaGreat
