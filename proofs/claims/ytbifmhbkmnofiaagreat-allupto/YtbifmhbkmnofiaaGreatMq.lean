import Derived.Test.YtbifmhbkmnofiaaGreatMp
namespace Go.Proofs.YtbifmhbkmnofiaaGreat
open Go.RowKit
set_option linter.unusedVariables false
set_option linter.unusedSimpArgs false
theorem wp_str {o : Oper} {a : Act} {w : World} {K : Act → World → Prop} {Q : Exit → Act → World → Prop} (x : Operand) (ho : o.op = .convert 41 9 x) (v : Value) (xs : List Int) (hx : a.eval x = v) (hb : Byt w v xs)
    (h : K (a.put o.dst (.string (toS xs))) w) : Oper.wp Tryz.prog o a w K Q := by
  unfold Oper.wp execOp
  simp only [ho, hx, Sem.run_bind, run_str hb, Result.andThen_ok, Sem.run_pure]
  exact h
/-- the document's source: kind, K, V, C, rounds in block Y -/
structure RS where
  a : Int
  k : ByteArray
  v : ByteArray
  c : ByteArray
  r : Int
def RsAt (w : World) (Y : Nat) (s : RS) : Prop := ∃ t, w.heap[Y]? = some (.cells #[.int .i64 s.a, .string s.k, .string s.v, .string s.c, .int .i64 s.r] t (0, 0))
theorem RsAt.lt {w : World} {Y : Nat} {s : RS} (h : RsAt w Y s) : Y < w.heap.size := by
  obtain ⟨t, h⟩ := h
  exact (Array.getElem?_eq_some_iff.1 h).1
theorem RsAt.other {w w' : World} {Y : Nat} {s : RS} (h : RsAt w Y s) (he : w'.heap[Y]? = w.heap[Y]?) : RsAt w' Y s := by
  obtain ⟨t, h⟩ := h
  exact ⟨t, he.trans h⟩
theorem RsAt.below {w w' : World} {Y : Nat} {s : RS} (h : RsAt w Y s) (hb : Below w.heap.size w w') : RsAt w' Y s := h.other (hb.block Y h.lt)
theorem RsAt.c0 {w : World} {Y : Nat} {s : RS} (h : RsAt w Y s) : w.cell? ⟨Y, 0, none⟩ = some (.int .i64 s.a) := by
  obtain ⟨t, h⟩ := h
  rw [cell_of_row w Y 0 _ t _ h]; rfl
theorem RsAt.c1 {w : World} {Y : Nat} {s : RS} (h : RsAt w Y s) : w.cell? ⟨Y, 1, none⟩ = some (.string s.k) := by
  obtain ⟨t, h⟩ := h
  rw [cell_of_row w Y 1 _ t _ h]; rfl
theorem RsAt.c2 {w : World} {Y : Nat} {s : RS} (h : RsAt w Y s) : w.cell? ⟨Y, 2, none⟩ = some (.string s.v) := by
  obtain ⟨t, h⟩ := h
  rw [cell_of_row w Y 2 _ t _ h]; rfl
theorem RsAt.c3 {w : World} {Y : Nat} {s : RS} (h : RsAt w Y s) : w.cell? ⟨Y, 3, none⟩ = some (.string s.c) := by
  obtain ⟨t, h⟩ := h
  rw [cell_of_row w Y 3 _ t _ h]; rfl
theorem RsAt.c4 {w : World} {Y : Nat} {s : RS} (h : RsAt w Y s) : w.cell? ⟨Y, 4, none⟩ = some (.int .i64 s.r) := by
  obtain ⟨t, h⟩ := h
  rw [cell_of_row w Y 4 _ t _ h]; rfl
theorem RsAt.frozen {w : World} {Y : Nat} {s : RS} (h : RsAt w Y s) (j : Nat) : w.frozen? ⟨Y, j, none⟩ = false := by
  obtain ⟨t, h⟩ := h
  simp [World.frozen?, h]
theorem RsAt.setK {w : World} {Y : Nat} {s : RS} (h : RsAt w Y s) (x : ByteArray) : RsAt (w.setCell ⟨Y, 1, none⟩ (.string x)) Y ⟨s.a, x, s.v, s.c, s.r⟩ := by
  obtain ⟨t, h⟩ := h
  refine ⟨t, ?_⟩
  simp only [World.setCell, Array.getElem?_modify, if_pos, h, Option.map_some]
  rfl
theorem RsAt.setV {w : World} {Y : Nat} {s : RS} (h : RsAt w Y s) (x : ByteArray) : RsAt (w.setCell ⟨Y, 2, none⟩ (.string x)) Y ⟨s.a, s.k, x, s.c, s.r⟩ := by
  obtain ⟨t, h⟩ := h
  refine ⟨t, ?_⟩
  simp only [World.setCell, Array.getElem?_modify, if_pos, h, Option.map_some]
  rfl
theorem RsAt.setC {w : World} {Y : Nat} {s : RS} (h : RsAt w Y s) (x : ByteArray) : RsAt (w.setCell ⟨Y, 3, none⟩ (.string x)) Y ⟨s.a, s.k, s.v, x, s.r⟩ := by
  obtain ⟨t, h⟩ := h
  refine ⟨t, ?_⟩
  simp only [World.setCell, Array.getElem?_modify, if_pos, h, Option.map_some]
  rfl
theorem RsAt.setR {w : World} {Y : Nat} {s : RS} (h : RsAt w Y s) (x : Int) : RsAt (w.setCell ⟨Y, 4, none⟩ (.int .i64 x)) Y ⟨s.a, s.k, s.v, s.c, x⟩ := by
  obtain ⟨t, h⟩ := h
  refine ⟨t, ?_⟩
  simp only [World.setCell, Array.getElem?_modify, if_pos, h, Option.map_some]
  rfl
structure MG.B (g : MG) : Prop where
  kb : allB g.k
  vb : allB g.v
theorem mkB {k v : List Int} (h1 : allB k) (h2 : allB v) : (⟨k, v⟩ : MG).B := ⟨h1, h2⟩
theorem macI_B (k x : List Int) : allB (macI k x) := shaI_B _
theorem stepG_B {g : MG} (h : g.B) : (stepG g).B := by
  rw [stepG_eq]; exact mkB h.kb (macI_B g.k g.v)
theorem rekeyG_B {g : MG} (h : g.B) (m : Int) (xs : List Int) : (rekeyG g m xs).B := by
  rw [rekeyG_eq]; exact stepG_B (mkB (macI_B g.k (g.v ++ (m :: xs))) h.vb)
theorem stirG_B {g : MG} (h : g.B) (xs : List Int) : (stirG g xs).B := by
  unfold stirG
  split
  · exact rekeyG_B h _ _
  · exact rekeyG_B (rekeyG_B h _ _) _ _
theorem stepN_B {g : MG} (h : g.B) : ∀ k, (stepN g k).B
  | 0 => h
  | k + 1 => by rw [stepN]; exact stepG_B (stepN_B h k)
theorem stirG_nil (g : MG) {xs : List Int} (h : xs = []) : stirG g xs = rekeyG g 0 xs := by subst h; unfold stirG; rw [if_pos rfl]
theorem stirG_cons (g : MG) {xs : List Int} (h : xs ≠ []) : stirG g xs = rekeyG (rekeyG g 0 xs) 1 xs := by unfold stirG; rw [if_neg h]
theorem toS_one (m : Int) : (toS [m]).size = 1 := by rw [toS_size]; rfl
theorem one_byt (w : World) (m : Int) : Byt (w.alloc (.cells #[Value.int .u8 m] 5)) (.slice (some ⟨w.heap.size, 0, none⟩) 1 1) [m] := (src_one w m 1).byt
theorem bts_cat (v : List Int) (m : Int) (d : ByteArray) (hv : allB v) (hm : 0 ≤ m ∧ m < 256) : bts (toS v ++ toS [m] ++ d) = v ++ (m :: bts d) := by
  rw [bts_append, bts_append, bts_toS v hv, bts_toS [m] (by intro x hx; simp at hx; subst hx; exact hm)]; simp

def refM (r : Int) (g : MG) : RS := ⟨1, toS g.k, toS g.v, ⟨#[]⟩, r⟩
set_option maxRecDepth 20000 in
set_option maxHeartbeats 1000000 in
theorem rstir_any (g : MG) (r : Int) (d : ByteArray) (Y : Nat) (w : World) (gok : g.ok) (gB : g.B) (hS : RsAt w Y ⟨1, toS g.k, toS g.v, ⟨#[]⟩, r⟩) (hd : d.size ≤ 1000) :
    Calls Tryz.prog 62 #[.pointer (some ⟨Y, 0, none⟩), .string d] w fun e w' => e = .returned (.tuple #[]) ∧ RsAt w' Y ⟨1, toS (stirG g (bts d)).k, toS (stirG g (bts d)).v, ⟨#[]⟩, r⟩ ∧ Ex Y w w' := by
  have HS := hid hS
  have HE := hid (Ex.refl Y w)
  clear hS
  go_enter Tryz.func62, Tryz.ntmps62
  refine wp_seq ?_
  have hkl := gok.kl
  have hvl := gok.vl
  have hkb := gB.kb
  have hvb := gB.vb
  have hks : (toS g.k).size = 32 := by rw [toS_size, hkl]
  have hvs : (toS g.v).size = 32 := by rw [toS_size, hvl]
  have hcat := hid (bts_cat g.v 0 d hvb (by omega))
  have hbk := hid (bts_toS g.k hkb)
  have hbv := hid (bts_toS g.v hvb)
  have he := hid (rekeyG_eq g 0 (bts d))
  refine wp_region_E (S := fun w' => w'.cell? ⟨Y, 1, none⟩ = some (.string (toS g.k)) ∧ w'.cell? ⟨Y, 2, none⟩ = some (.string (toS g.v))) 17 (by kernel_rfl) ⟨HS.out.c1, HS.out.c2⟩ (fun hSw => ?_)
  refine wpAnyE_take (i := 0) (v := ?_) rfl (by decide +kernel) (by decide) (by decide +kernel) (by decide +kernel) (by decide +kernel) (fun _ _ _ h => h) (Or.inl ⟨by rfl, ?_⟩) hSw ?_
  rotate_left
  · intro w hw; go_simp; try with_reducible rfl
  simp only [Act.put, List.getElem_toArray, List.getElem_cons_zero, List.getElem_cons_succ, List.setIfInBounds_toArray, List.set_cons_zero, List.set_cons_succ]
  refine wpAnyE_take (i := 1) (v := ?_) rfl (by decide +kernel) (by decide) (by decide +kernel) (by decide +kernel) (by decide +kernel) (fun _ _ _ h => h) (Or.inl ⟨by rfl, ?_⟩) hSw ?_
  rotate_left
  · intro w hw; go_simp; try with_reducible rfl
  simp only [Act.put, List.getElem_toArray, List.getElem_cons_zero, List.getElem_cons_succ, List.setIfInBounds_toArray, List.set_cons_zero, List.set_cons_succ]
  refine wpAnyE_take (i := 2) (v := ?_) rfl (by decide +kernel) (by decide) (by decide +kernel) (by decide +kernel) (by decide +kernel) (fun _ _ _ h => h) (Or.inl ⟨by rfl, ?_⟩) hSw ?_
  rotate_left
  · intro w hw; go_simp; try with_reducible rfl
  simp only [Act.put, List.getElem_toArray, List.getElem_cons_zero, List.getElem_cons_succ, List.setIfInBounds_toArray, List.set_cons_zero, List.set_cons_succ]
  refine wpAnyE_take (i := 3) (v := ?_) rfl (by decide +kernel) (by decide) (by decide +kernel) (by decide +kernel) (by decide +kernel) (fun _ _ _ h => h) (Or.inl ⟨by rfl, ?_⟩) hSw ?_
  rotate_left
  · intro w hw; go_simp; try with_reducible rfl
  simp only [Act.put, List.getElem_toArray, List.getElem_cons_zero, List.getElem_cons_succ, List.setIfInBounds_toArray, List.set_cons_zero, List.set_cons_succ]
  refine wpAnyE_take (i := 4) (v := ?_) rfl (by decide +kernel) (by decide) (by decide +kernel) (by decide +kernel) (by decide +kernel) (fun _ _ _ h => h) (Or.inl ⟨by rfl, ?_⟩) hSw ?_
  rotate_left
  · intro w hw; have hcell := hw.1; clear hw; go_simp; try with_reducible rfl
  simp only [Act.put, List.getElem_toArray, List.getElem_cons_zero, List.getElem_cons_succ, List.setIfInBounds_toArray, List.set_cons_zero, List.set_cons_succ]
  refine wpAnyE_take (i := 5) (v := ?_) rfl (by decide +kernel) (by decide) (by decide +kernel) (by decide +kernel) (by decide +kernel) (fun _ _ _ h => h) (Or.inl ⟨by rfl, ?_⟩) hSw ?_
  rotate_left
  · intro w hw; go_simp; try with_reducible rfl
  simp only [Act.put, List.getElem_toArray, List.getElem_cons_zero, List.getElem_cons_succ, List.setIfInBounds_toArray, List.set_cons_zero, List.set_cons_succ]
  refine wpAnyE_take (i := 6) (v := ?_) rfl (by decide +kernel) (by decide) (by decide +kernel) (by decide +kernel) (by decide +kernel) (fun _ _ _ h => h) (Or.inl ⟨by rfl, ?_⟩) hSw ?_
  rotate_left
  · intro w hw; go_simp; try with_reducible rfl
  simp only [Act.put, List.getElem_toArray, List.getElem_cons_zero, List.getElem_cons_succ, List.setIfInBounds_toArray, List.set_cons_zero, List.set_cons_succ]
  refine wpAnyE_take (i := 7) (v := ?_) rfl (by decide +kernel) (by decide) (by decide +kernel) (by decide +kernel) (by decide +kernel) (fun _ _ _ h => h) (Or.inl ⟨by rfl, ?_⟩) hSw ?_
  rotate_left
  · intro w hw; go_simp; try with_reducible rfl
  simp only [Act.put, List.getElem_toArray, List.getElem_cons_zero, List.getElem_cons_succ, List.setIfInBounds_toArray, List.set_cons_zero, List.set_cons_succ]
  refine wpAnyE_take (i := 8) (v := ?_) rfl (by decide +kernel) (by decide) (by decide +kernel) (by decide +kernel) (by decide +kernel) (fun _ _ _ h => h) (Or.inl ⟨by rfl, ?_⟩) hSw ?_
  rotate_left
  · intro w hw; have hcell := hw.2; clear hw; go_simp; try with_reducible rfl
  simp only [Act.put, List.getElem_toArray, List.getElem_cons_zero, List.getElem_cons_succ, List.setIfInBounds_toArray, List.set_cons_zero, List.set_cons_succ]
  refine wpAnyE_take (i := 12) (v := ?_) rfl (by decide +kernel) (by decide) (by decide +kernel) (by decide +kernel) (by decide +kernel) (fun _ _ _ h => h) (Or.inl ⟨by rfl, ?_⟩) hSw ?_
  rotate_left
  · intro w hw; go_simp; try with_reducible rfl
  simp only [Act.put, List.getElem_toArray, List.getElem_cons_zero, List.getElem_cons_succ, List.setIfInBounds_toArray, List.set_cons_zero, List.set_cons_succ]
  refine wpAnyE_one (i := 9) (by kernel_rfl) rfl (fun K hK => ?_)
  go_simp
  have hSw2 : (w.alloc (.cells #[Value.int .u8 0] 5)).drew.cell? ⟨Y, 1, none⟩ = some (.string (toS g.k)) ∧ (w.alloc (.cells #[Value.int .u8 0] 5)).drew.cell? ⟨Y, 2, none⟩ = some (.string (toS g.v)) := by
    have hR := HS.out.below ((Below.refl w.heap.size w).alloc (Nat.le_refl _) (.cells #[Value.int .u8 0] 5))
    exact ⟨hR.c1, hR.c2⟩
  refine hK.out _ _ (fun _ => hSw2) ?_
  replace hSw := hSw2
  clear hK K
  have hob := hid (one_byt w 0)
  have HSa := hid (HS.out.below ((Below.refl w.heap.size w).alloc (Nat.le_refl _) (.cells #[Value.int .u8 0] 5)))
  have hBa : Below w.heap.size w (w.alloc (.cells #[Value.int .u8 0] 5)) := (Below.refl _ _).alloc (Nat.le_refl _) _
  have hEa := hid (HE.out.trans (Ex.of_below (B := Y) hBa))
  generalize (w.alloc (.cells #[Value.int .u8 0] 5)) = wA at *
  refine wpAnyE_one (i := 10) (by kernel_rfl) rfl (fun K hK => ?_)
  rw [if_pos (by rfl)]
  refine wp_str _ rfl _ [0] rfl (show Byt wA.drew _ _ from hob.out) ?_
  refine hK.out _ _ (fun _ => hSw) ?_
  clear hK K
  have h1s := toS_one 0
  have hnb : ¬ 9223372036854775807 < 33 + d.size := by omega
  generalize hone : toS [0] = one at *
  refine wpAnyE_take (i := 11) (v := ?_) rfl (by decide +kernel) (by decide) (by decide +kernel) (by decide +kernel) (by decide +kernel) (fun _ _ _ h => h) (Or.inl ⟨by rfl, ?_⟩) hSw ?_
  rotate_left
  · intro w hw; go_simp; try with_reducible rfl
  simp only [Act.put, List.getElem_toArray, List.getElem_cons_zero, List.getElem_cons_succ, List.setIfInBounds_toArray, List.set_cons_zero, List.set_cons_succ]
  refine wpAnyE_take (i := 13) (v := ?_) rfl (by decide +kernel) (by decide) (by decide +kernel) (by decide +kernel) (by decide +kernel) (fun _ _ _ h => h) (Or.inl ⟨by rfl, ?_⟩) hSw ?_
  rotate_left
  · intro w hw; go_simp; try with_reducible rfl
  simp only [Act.put, List.getElem_toArray, List.getElem_cons_zero, List.getElem_cons_succ, List.setIfInBounds_toArray, List.set_cons_zero, List.set_cons_succ]
  refine wpAnyE_one (i := 14) (by kernel_rfl) rfl (fun K hK => ?_)
  go_simp
  refine (rkeyed_any (toS g.k) (toS g.v ++ one ++ d) _ (by omega) (by rw [ByteArray.size_append, ByteArray.size_append]; omega)).mono ?_
  rintro e wB ⟨rfl, hBb⟩
  have HSb := hid ((show RsAt wA.drew Y _ from HSa.out).below hBb)
  have hEb := hid (hEa.out.drew.trans (Ex.of_below (B := Y) hBb))
  rw [hcat.out, hbk.out]
  refine hK.out _ _ (fun _ => ⟨HSb.out.c1, HSb.out.c2⟩) ?_
  replace hSw : wB.cell? ⟨Y, 1, none⟩ = some (.string (toS g.k)) ∧ wB.cell? ⟨Y, 2, none⟩ = some (.string (toS g.v)) := ⟨HSb.out.c1, HSb.out.c2⟩
  clear hK K hob HSa hEa HS HE hBa hBb
  have hml := macI_len g.k (g.v ++ (0 :: bts d))
  have hmb := macI_B g.k (g.v ++ (0 :: bts d))
  generalize hmk : macI g.k (g.v ++ (0 :: bts d)) = mk at *
  refine wpAnyE_one (i := 15) (by kernel_rfl) rfl (fun K hK => ?_)
  go_simp
  refine hK.out _ _ (fun _ => hSw) ?_
  clear hK K
  refine wpAnyE_one (i := 16) (by kernel_rfl) rfl (fun K hK => ?_)
  go_simp
  refine hK.out _ _ (fun _ => hSw) ?_
  clear hK K
  have f1 := HSb.out.frozen 1
  have cc1 := hSw.1
  refine wpAnyE_one (i := 17) (by kernel_rfl) rfl (fun K hK => ?_)
  go_simp
  have HSc := hid (HSb.out.setK (toS mk))
  have HEc := hid (hEb.out.setCell 1 (.string (toS mk)))
  generalize (wB.setCell ⟨Y, 1, none⟩ (.string (toS mk))) = wC at *
  refine hK.out _ _ (fun h => absurd rfl h) ?_
  clear hK K hSw cc1 f1 HSb hEb
  refine wpAnyE_done (by kernel_rfl) ?_ _
  dsimp only at HSc
  have hks2 : (toS mk).size = 32 := by rw [toS_size, hml]
  have hbk2 := hid (bts_toS mk hmb)
  go_wp2_with fail
  refine wp_region_E (S := fun w' => w'.cell? ⟨Y, 1, none⟩ = some (.string (toS mk)) ∧ w'.cell? ⟨Y, 2, none⟩ = some (.string (toS g.v))) 12 (by kernel_rfl) ⟨HSc.out.c1, HSc.out.c2⟩ (fun hSw => ?_)
  refine wpAnyE_take (i := 0) (v := ?_) rfl (by decide +kernel) (by decide) (by decide +kernel) (by decide +kernel) (by decide +kernel) (fun _ _ _ h => h) (Or.inl ⟨by rfl, ?_⟩) hSw ?_
  rotate_left
  · intro w hw; go_simp; try with_reducible rfl
  simp only [Act.put, List.getElem_toArray, List.getElem_cons_zero, List.getElem_cons_succ, List.setIfInBounds_toArray, List.set_cons_zero, List.set_cons_succ]
  refine wpAnyE_take (i := 1) (v := ?_) rfl (by decide +kernel) (by decide) (by decide +kernel) (by decide +kernel) (by decide +kernel) (fun _ _ _ h => h) (Or.inl ⟨by rfl, ?_⟩) hSw ?_
  rotate_left
  · intro w hw; go_simp; try with_reducible rfl
  simp only [Act.put, List.getElem_toArray, List.getElem_cons_zero, List.getElem_cons_succ, List.setIfInBounds_toArray, List.set_cons_zero, List.set_cons_succ]
  refine wpAnyE_take (i := 2) (v := ?_) rfl (by decide +kernel) (by decide) (by decide +kernel) (by decide +kernel) (by decide +kernel) (fun _ _ _ h => h) (Or.inl ⟨by rfl, ?_⟩) hSw ?_
  rotate_left
  · intro w hw; go_simp; try with_reducible rfl
  simp only [Act.put, List.getElem_toArray, List.getElem_cons_zero, List.getElem_cons_succ, List.setIfInBounds_toArray, List.set_cons_zero, List.set_cons_succ]
  refine wpAnyE_take (i := 3) (v := ?_) rfl (by decide +kernel) (by decide) (by decide +kernel) (by decide +kernel) (by decide +kernel) (fun _ _ _ h => h) (Or.inl ⟨by rfl, ?_⟩) hSw ?_
  rotate_left
  · intro w hw; go_simp; try with_reducible rfl
  simp only [Act.put, List.getElem_toArray, List.getElem_cons_zero, List.getElem_cons_succ, List.setIfInBounds_toArray, List.set_cons_zero, List.set_cons_succ]
  refine wpAnyE_take (i := 4) (v := ?_) rfl (by decide +kernel) (by decide) (by decide +kernel) (by decide +kernel) (by decide +kernel) (fun _ _ _ h => h) (Or.inl ⟨by rfl, ?_⟩) hSw ?_
  rotate_left
  · intro w hw; have hcell := hw.1; clear hw; go_simp; try with_reducible rfl
  simp only [Act.put, List.getElem_toArray, List.getElem_cons_zero, List.getElem_cons_succ, List.setIfInBounds_toArray, List.set_cons_zero, List.set_cons_succ]
  refine wpAnyE_take (i := 5) (v := ?_) rfl (by decide +kernel) (by decide) (by decide +kernel) (by decide +kernel) (by decide +kernel) (fun _ _ _ h => h) (Or.inl ⟨by rfl, ?_⟩) hSw ?_
  rotate_left
  · intro w hw; go_simp; try with_reducible rfl
  simp only [Act.put, List.getElem_toArray, List.getElem_cons_zero, List.getElem_cons_succ, List.setIfInBounds_toArray, List.set_cons_zero, List.set_cons_succ]
  refine wpAnyE_take (i := 6) (v := ?_) rfl (by decide +kernel) (by decide) (by decide +kernel) (by decide +kernel) (by decide +kernel) (fun _ _ _ h => h) (Or.inl ⟨by rfl, ?_⟩) hSw ?_
  rotate_left
  · intro w hw; go_simp; try with_reducible rfl
  simp only [Act.put, List.getElem_toArray, List.getElem_cons_zero, List.getElem_cons_succ, List.setIfInBounds_toArray, List.set_cons_zero, List.set_cons_succ]
  refine wpAnyE_take (i := 7) (v := ?_) rfl (by decide +kernel) (by decide) (by decide +kernel) (by decide +kernel) (by decide +kernel) (fun _ _ _ h => h) (Or.inl ⟨by rfl, ?_⟩) hSw ?_
  rotate_left
  · intro w hw; go_simp; try with_reducible rfl
  simp only [Act.put, List.getElem_toArray, List.getElem_cons_zero, List.getElem_cons_succ, List.setIfInBounds_toArray, List.set_cons_zero, List.set_cons_succ]
  refine wpAnyE_take (i := 8) (v := ?_) rfl (by decide +kernel) (by decide) (by decide +kernel) (by decide +kernel) (by decide +kernel) (fun _ _ _ h => h) (Or.inl ⟨by rfl, ?_⟩) hSw ?_
  rotate_left
  · intro w hw; have hcell := hw.2; clear hw; go_simp; try with_reducible rfl
  simp only [Act.put, List.getElem_toArray, List.getElem_cons_zero, List.getElem_cons_succ, List.setIfInBounds_toArray, List.set_cons_zero, List.set_cons_succ]
  refine wpAnyE_one (i := 9) (by kernel_rfl) rfl (fun K hK => ?_)
  go_simp
  refine (rkeyed_any (toS mk) (toS g.v) _ (by omega) (by omega)).mono ?_
  rintro e wD ⟨rfl, hBd⟩
  rw [hbk2.out, hbv.out]
  have HSd := hid ((show RsAt wC.drew Y _ from HSc.out).below hBd)
  have HEd := hid (HEc.out.drew.trans (Ex.of_below (B := Y) hBd))
  refine hK.out _ _ (fun _ => ⟨HSd.out.c1, HSd.out.c2⟩) ?_
  replace hSw : wD.cell? ⟨Y, 1, none⟩ = some (.string (toS mk)) ∧ wD.cell? ⟨Y, 2, none⟩ = some (.string (toS g.v)) := ⟨HSd.out.c1, HSd.out.c2⟩
  clear hK K HSc HEc hBd
  refine wpAnyE_one (i := 10) (by kernel_rfl) rfl (fun K hK => ?_)
  go_simp
  refine hK.out _ _ (fun _ => hSw) ?_
  clear hK K
  refine wpAnyE_one (i := 11) (by kernel_rfl) rfl (fun K hK => ?_)
  go_simp
  refine hK.out _ _ (fun _ => hSw) ?_
  clear hK K
  have f2 := HSd.out.frozen 2
  have cc2 := hSw.2
  refine wpAnyE_one (i := 12) (by kernel_rfl) rfl (fun K hK => ?_)
  go_simp
  have HSe := hid (HSd.out.setV (toS (macI mk g.v)))
  have HEe := hid (HEd.out.setCell 2 (.string (toS (macI mk g.v))))
  dsimp only at HSe
  generalize (wD.setCell ⟨Y, 2, none⟩ (.string (toS (macI mk g.v)))) = wE at *
  refine hK.out _ _ (fun h => absurd rfl h) ?_
  clear hK K hSw cc2 f2 HSd HEd
  refine wpAnyE_done (by kernel_rfl) ?_ _
  have hmm := hid hmk
  clear hmk
  have heq : Hd (rekeyG g 0 (bts d) = ⟨mk, macI mk g.v⟩) := hid (by rw [he.out, stepG_eq])
  by_cases h0 : d = ⟨#[]⟩
  · subst h0
    have hst : Hd (stirG g (bts ⟨#[]⟩) = ⟨mk, macI mk g.v⟩) := hid ((stirG_nil g rfl).trans heq.out)
    go_wp2
    go_end0
    rw [hst.out]
    dsimp only
    exact ⟨rfl, HSe.out, HEe.out⟩
  · have hst : Hd (stirG g (bts d) = rekeyG (rekeyG g 0 (bts d)) 1 (bts d)) := hid (stirG_cons g (empty_bts h0))
    have hneb := not_empty h0
    have g1ok := rekeyG_ok gok 0 (bts d)
    have g1B := rekeyG_B gB 0 (bts d)
    have hk1 : (rekeyG g 0 (bts d)).k = mk := by rw [heq.out]
    have hv1 : (rekeyG g 0 (bts d)).v = macI mk g.v := by rw [heq.out]
    have HS0 := HSe
    rw [← hk1] at HS0
    rw [hk1, ← hv1, ← hk1] at HS0
    have HS := HS0
    clear hk1 hv1 HS0
    have HE := HEe
    clear he hcat hkl hvl hkb hvb hks hvs hbk hbv h1s hone hml hmb hmm heq HSe HEe hks2 hbk2
    generalize rekeyG g 0 (bts d) = g1 at *
    go_wp2_with fail
    have hkl := g1ok.kl
    have hvl := g1ok.vl
    have hkb := g1B.kb
    have hvb := g1B.vb
    have hks : (toS g1.k).size = 32 := by rw [toS_size, hkl]
    have hvs : (toS g1.v).size = 32 := by rw [toS_size, hvl]
    have hcat := hid (bts_cat g1.v 1 d hvb (by omega))
    have hbk := hid (bts_toS g1.k hkb)
    have hbv := hid (bts_toS g1.v hvb)
    have he := hid (rekeyG_eq g1 1 (bts d))
    refine wp_region_E (S := fun w' => w'.cell? ⟨Y, 1, none⟩ = some (.string (toS g1.k)) ∧ w'.cell? ⟨Y, 2, none⟩ = some (.string (toS g1.v))) 17 (by kernel_rfl) ⟨HS.out.c1, HS.out.c2⟩ (fun hSw => ?_)
    refine wpAnyE_take (i := 0) (v := ?_) rfl (by decide +kernel) (by decide) (by decide +kernel) (by decide +kernel) (by decide +kernel) (fun _ _ _ h => h) (Or.inl ⟨by rfl, ?_⟩) hSw ?_
    rotate_left
    · intro w hw; go_simp; try with_reducible rfl
    simp only [Act.put, List.getElem_toArray, List.getElem_cons_zero, List.getElem_cons_succ, List.setIfInBounds_toArray, List.set_cons_zero, List.set_cons_succ]
    refine wpAnyE_take (i := 1) (v := ?_) rfl (by decide +kernel) (by decide) (by decide +kernel) (by decide +kernel) (by decide +kernel) (fun _ _ _ h => h) (Or.inl ⟨by rfl, ?_⟩) hSw ?_
    rotate_left
    · intro w hw; go_simp; try with_reducible rfl
    simp only [Act.put, List.getElem_toArray, List.getElem_cons_zero, List.getElem_cons_succ, List.setIfInBounds_toArray, List.set_cons_zero, List.set_cons_succ]
    refine wpAnyE_take (i := 2) (v := ?_) rfl (by decide +kernel) (by decide) (by decide +kernel) (by decide +kernel) (by decide +kernel) (fun _ _ _ h => h) (Or.inl ⟨by rfl, ?_⟩) hSw ?_
    rotate_left
    · intro w hw; go_simp; try with_reducible rfl
    simp only [Act.put, List.getElem_toArray, List.getElem_cons_zero, List.getElem_cons_succ, List.setIfInBounds_toArray, List.set_cons_zero, List.set_cons_succ]
    refine wpAnyE_take (i := 3) (v := ?_) rfl (by decide +kernel) (by decide) (by decide +kernel) (by decide +kernel) (by decide +kernel) (fun _ _ _ h => h) (Or.inl ⟨by rfl, ?_⟩) hSw ?_
    rotate_left
    · intro w hw; go_simp; try with_reducible rfl
    simp only [Act.put, List.getElem_toArray, List.getElem_cons_zero, List.getElem_cons_succ, List.setIfInBounds_toArray, List.set_cons_zero, List.set_cons_succ]
    refine wpAnyE_take (i := 4) (v := ?_) rfl (by decide +kernel) (by decide) (by decide +kernel) (by decide +kernel) (by decide +kernel) (fun _ _ _ h => h) (Or.inl ⟨by rfl, ?_⟩) hSw ?_
    rotate_left
    · intro w hw; have hcell := hw.1; clear hw; go_simp; try with_reducible rfl
    simp only [Act.put, List.getElem_toArray, List.getElem_cons_zero, List.getElem_cons_succ, List.setIfInBounds_toArray, List.set_cons_zero, List.set_cons_succ]
    refine wpAnyE_take (i := 5) (v := ?_) rfl (by decide +kernel) (by decide) (by decide +kernel) (by decide +kernel) (by decide +kernel) (fun _ _ _ h => h) (Or.inl ⟨by rfl, ?_⟩) hSw ?_
    rotate_left
    · intro w hw; go_simp; try with_reducible rfl
    simp only [Act.put, List.getElem_toArray, List.getElem_cons_zero, List.getElem_cons_succ, List.setIfInBounds_toArray, List.set_cons_zero, List.set_cons_succ]
    refine wpAnyE_take (i := 6) (v := ?_) rfl (by decide +kernel) (by decide) (by decide +kernel) (by decide +kernel) (by decide +kernel) (fun _ _ _ h => h) (Or.inl ⟨by rfl, ?_⟩) hSw ?_
    rotate_left
    · intro w hw; go_simp; try with_reducible rfl
    simp only [Act.put, List.getElem_toArray, List.getElem_cons_zero, List.getElem_cons_succ, List.setIfInBounds_toArray, List.set_cons_zero, List.set_cons_succ]
    refine wpAnyE_take (i := 7) (v := ?_) rfl (by decide +kernel) (by decide) (by decide +kernel) (by decide +kernel) (by decide +kernel) (fun _ _ _ h => h) (Or.inl ⟨by rfl, ?_⟩) hSw ?_
    rotate_left
    · intro w hw; go_simp; try with_reducible rfl
    simp only [Act.put, List.getElem_toArray, List.getElem_cons_zero, List.getElem_cons_succ, List.setIfInBounds_toArray, List.set_cons_zero, List.set_cons_succ]
    refine wpAnyE_take (i := 8) (v := ?_) rfl (by decide +kernel) (by decide) (by decide +kernel) (by decide +kernel) (by decide +kernel) (fun _ _ _ h => h) (Or.inl ⟨by rfl, ?_⟩) hSw ?_
    rotate_left
    · intro w hw; have hcell := hw.2; clear hw; go_simp; try with_reducible rfl
    simp only [Act.put, List.getElem_toArray, List.getElem_cons_zero, List.getElem_cons_succ, List.setIfInBounds_toArray, List.set_cons_zero, List.set_cons_succ]
    refine wpAnyE_take (i := 12) (v := ?_) rfl (by decide +kernel) (by decide) (by decide +kernel) (by decide +kernel) (by decide +kernel) (fun _ _ _ h => h) (Or.inl ⟨by rfl, ?_⟩) hSw ?_
    rotate_left
    · intro w hw; go_simp; try with_reducible rfl
    simp only [Act.put, List.getElem_toArray, List.getElem_cons_zero, List.getElem_cons_succ, List.setIfInBounds_toArray, List.set_cons_zero, List.set_cons_succ]
    refine wpAnyE_one (i := 9) (by kernel_rfl) rfl (fun K hK => ?_)
    go_simp
    have hSw2 : (wE.alloc (.cells #[Value.int .u8 1] 5)).drew.cell? ⟨Y, 1, none⟩ = some (.string (toS g1.k)) ∧ (wE.alloc (.cells #[Value.int .u8 1] 5)).drew.cell? ⟨Y, 2, none⟩ = some (.string (toS g1.v)) := by
      have hR := HS.out.below ((Below.refl wE.heap.size wE).alloc (Nat.le_refl _) (.cells #[Value.int .u8 1] 5))
      exact ⟨hR.c1, hR.c2⟩
    refine hK.out _ _ (fun _ => hSw2) ?_
    replace hSw := hSw2
    clear hK K
    have hob := hid (one_byt wE 1)
    have HSa := hid (HS.out.below ((Below.refl wE.heap.size wE).alloc (Nat.le_refl _) (.cells #[Value.int .u8 1] 5)))
    have hBa : Below wE.heap.size wE (wE.alloc (.cells #[Value.int .u8 1] 5)) := (Below.refl _ _).alloc (Nat.le_refl _) _
    have hEa := hid (HE.out.trans (Ex.of_below (B := Y) hBa))
    generalize (wE.alloc (.cells #[Value.int .u8 1] 5)) = wA at *
    refine wpAnyE_one (i := 10) (by kernel_rfl) rfl (fun K hK => ?_)
    rw [if_pos (by rfl)]
    refine wp_str _ rfl _ [1] rfl (show Byt wA.drew _ _ from hob.out) ?_
    refine hK.out _ _ (fun _ => hSw) ?_
    clear hK K
    have h1s := toS_one 1
    have hnb : ¬ 9223372036854775807 < 33 + d.size := by omega
    generalize hone : toS [1] = one at *
    refine wpAnyE_take (i := 11) (v := ?_) rfl (by decide +kernel) (by decide) (by decide +kernel) (by decide +kernel) (by decide +kernel) (fun _ _ _ h => h) (Or.inl ⟨by rfl, ?_⟩) hSw ?_
    rotate_left
    · intro w hw; go_simp; try with_reducible rfl
    simp only [Act.put, List.getElem_toArray, List.getElem_cons_zero, List.getElem_cons_succ, List.setIfInBounds_toArray, List.set_cons_zero, List.set_cons_succ]
    refine wpAnyE_take (i := 13) (v := ?_) rfl (by decide +kernel) (by decide) (by decide +kernel) (by decide +kernel) (by decide +kernel) (fun _ _ _ h => h) (Or.inl ⟨by rfl, ?_⟩) hSw ?_
    rotate_left
    · intro w hw; go_simp; try with_reducible rfl
    simp only [Act.put, List.getElem_toArray, List.getElem_cons_zero, List.getElem_cons_succ, List.setIfInBounds_toArray, List.set_cons_zero, List.set_cons_succ]
    refine wpAnyE_one (i := 14) (by kernel_rfl) rfl (fun K hK => ?_)
    go_simp
    refine (rkeyed_any (toS g1.k) (toS g1.v ++ one ++ d) _ (by omega) (by rw [ByteArray.size_append, ByteArray.size_append]; omega)).mono ?_
    rintro e wB ⟨rfl, hBb⟩
    have HSb := hid ((show RsAt wA.drew Y _ from HSa.out).below hBb)
    have hEb := hid (hEa.out.drew.trans (Ex.of_below (B := Y) hBb))
    rw [hcat.out, hbk.out]
    refine hK.out _ _ (fun _ => ⟨HSb.out.c1, HSb.out.c2⟩) ?_
    replace hSw : wB.cell? ⟨Y, 1, none⟩ = some (.string (toS g1.k)) ∧ wB.cell? ⟨Y, 2, none⟩ = some (.string (toS g1.v)) := ⟨HSb.out.c1, HSb.out.c2⟩
    clear hK K hob HSa hEa HS HE hBa hBb
    have hml := macI_len g1.k (g1.v ++ (1 :: bts d))
    have hmb := macI_B g1.k (g1.v ++ (1 :: bts d))
    generalize hmk : macI g1.k (g1.v ++ (1 :: bts d)) = mk at *
    refine wpAnyE_one (i := 15) (by kernel_rfl) rfl (fun K hK => ?_)
    go_simp
    refine hK.out _ _ (fun _ => hSw) ?_
    clear hK K
    refine wpAnyE_one (i := 16) (by kernel_rfl) rfl (fun K hK => ?_)
    go_simp
    refine hK.out _ _ (fun _ => hSw) ?_
    clear hK K
    have f1 := HSb.out.frozen 1
    have cc1 := hSw.1
    refine wpAnyE_one (i := 17) (by kernel_rfl) rfl (fun K hK => ?_)
    go_simp
    have HSc := hid (HSb.out.setK (toS mk))
    have HEc := hid (hEb.out.setCell 1 (.string (toS mk)))
    generalize (wB.setCell ⟨Y, 1, none⟩ (.string (toS mk))) = wC at *
    refine hK.out _ _ (fun h => absurd rfl h) ?_
    clear hK K hSw cc1 f1 HSb hEb
    refine wpAnyE_done (by kernel_rfl) ?_ _
    dsimp only at HSc
    have hks2 : (toS mk).size = 32 := by rw [toS_size, hml]
    have hbk2 := hid (bts_toS mk hmb)
    go_wp2_with fail
    refine wp_region_E (S := fun w' => w'.cell? ⟨Y, 1, none⟩ = some (.string (toS mk)) ∧ w'.cell? ⟨Y, 2, none⟩ = some (.string (toS g1.v))) 12 (by kernel_rfl) ⟨HSc.out.c1, HSc.out.c2⟩ (fun hSw => ?_)
    refine wpAnyE_take (i := 0) (v := ?_) rfl (by decide +kernel) (by decide) (by decide +kernel) (by decide +kernel) (by decide +kernel) (fun _ _ _ h => h) (Or.inl ⟨by rfl, ?_⟩) hSw ?_
    rotate_left
    · intro w hw; go_simp; try with_reducible rfl
    simp only [Act.put, List.getElem_toArray, List.getElem_cons_zero, List.getElem_cons_succ, List.setIfInBounds_toArray, List.set_cons_zero, List.set_cons_succ]
    refine wpAnyE_take (i := 1) (v := ?_) rfl (by decide +kernel) (by decide) (by decide +kernel) (by decide +kernel) (by decide +kernel) (fun _ _ _ h => h) (Or.inl ⟨by rfl, ?_⟩) hSw ?_
    rotate_left
    · intro w hw; go_simp; try with_reducible rfl
    simp only [Act.put, List.getElem_toArray, List.getElem_cons_zero, List.getElem_cons_succ, List.setIfInBounds_toArray, List.set_cons_zero, List.set_cons_succ]
    refine wpAnyE_take (i := 2) (v := ?_) rfl (by decide +kernel) (by decide) (by decide +kernel) (by decide +kernel) (by decide +kernel) (fun _ _ _ h => h) (Or.inl ⟨by rfl, ?_⟩) hSw ?_
    rotate_left
    · intro w hw; go_simp; try with_reducible rfl
    simp only [Act.put, List.getElem_toArray, List.getElem_cons_zero, List.getElem_cons_succ, List.setIfInBounds_toArray, List.set_cons_zero, List.set_cons_succ]
    refine wpAnyE_take (i := 3) (v := ?_) rfl (by decide +kernel) (by decide) (by decide +kernel) (by decide +kernel) (by decide +kernel) (fun _ _ _ h => h) (Or.inl ⟨by rfl, ?_⟩) hSw ?_
    rotate_left
    · intro w hw; go_simp; try with_reducible rfl
    simp only [Act.put, List.getElem_toArray, List.getElem_cons_zero, List.getElem_cons_succ, List.setIfInBounds_toArray, List.set_cons_zero, List.set_cons_succ]
    refine wpAnyE_take (i := 4) (v := ?_) rfl (by decide +kernel) (by decide) (by decide +kernel) (by decide +kernel) (by decide +kernel) (fun _ _ _ h => h) (Or.inl ⟨by rfl, ?_⟩) hSw ?_
    rotate_left
    · intro w hw; have hcell := hw.1; clear hw; go_simp; try with_reducible rfl
    simp only [Act.put, List.getElem_toArray, List.getElem_cons_zero, List.getElem_cons_succ, List.setIfInBounds_toArray, List.set_cons_zero, List.set_cons_succ]
    refine wpAnyE_take (i := 5) (v := ?_) rfl (by decide +kernel) (by decide) (by decide +kernel) (by decide +kernel) (by decide +kernel) (fun _ _ _ h => h) (Or.inl ⟨by rfl, ?_⟩) hSw ?_
    rotate_left
    · intro w hw; go_simp; try with_reducible rfl
    simp only [Act.put, List.getElem_toArray, List.getElem_cons_zero, List.getElem_cons_succ, List.setIfInBounds_toArray, List.set_cons_zero, List.set_cons_succ]
    refine wpAnyE_take (i := 6) (v := ?_) rfl (by decide +kernel) (by decide) (by decide +kernel) (by decide +kernel) (by decide +kernel) (fun _ _ _ h => h) (Or.inl ⟨by rfl, ?_⟩) hSw ?_
    rotate_left
    · intro w hw; go_simp; try with_reducible rfl
    simp only [Act.put, List.getElem_toArray, List.getElem_cons_zero, List.getElem_cons_succ, List.setIfInBounds_toArray, List.set_cons_zero, List.set_cons_succ]
    refine wpAnyE_take (i := 7) (v := ?_) rfl (by decide +kernel) (by decide) (by decide +kernel) (by decide +kernel) (by decide +kernel) (fun _ _ _ h => h) (Or.inl ⟨by rfl, ?_⟩) hSw ?_
    rotate_left
    · intro w hw; go_simp; try with_reducible rfl
    simp only [Act.put, List.getElem_toArray, List.getElem_cons_zero, List.getElem_cons_succ, List.setIfInBounds_toArray, List.set_cons_zero, List.set_cons_succ]
    refine wpAnyE_take (i := 8) (v := ?_) rfl (by decide +kernel) (by decide) (by decide +kernel) (by decide +kernel) (by decide +kernel) (fun _ _ _ h => h) (Or.inl ⟨by rfl, ?_⟩) hSw ?_
    rotate_left
    · intro w hw; have hcell := hw.2; clear hw; go_simp; try with_reducible rfl
    simp only [Act.put, List.getElem_toArray, List.getElem_cons_zero, List.getElem_cons_succ, List.setIfInBounds_toArray, List.set_cons_zero, List.set_cons_succ]
    refine wpAnyE_one (i := 9) (by kernel_rfl) rfl (fun K hK => ?_)
    go_simp
    refine (rkeyed_any (toS mk) (toS g1.v) _ (by omega) (by omega)).mono ?_
    rintro e wG ⟨rfl, hBd⟩
    rw [hbk2.out, hbv.out]
    have HSd := hid ((show RsAt wC.drew Y _ from HSc.out).below hBd)
    have HEd := hid (HEc.out.drew.trans (Ex.of_below (B := Y) hBd))
    refine hK.out _ _ (fun _ => ⟨HSd.out.c1, HSd.out.c2⟩) ?_
    replace hSw : wG.cell? ⟨Y, 1, none⟩ = some (.string (toS mk)) ∧ wG.cell? ⟨Y, 2, none⟩ = some (.string (toS g1.v)) := ⟨HSd.out.c1, HSd.out.c2⟩
    clear hK K HSc HEc hBd
    refine wpAnyE_one (i := 10) (by kernel_rfl) rfl (fun K hK => ?_)
    go_simp
    refine hK.out _ _ (fun _ => hSw) ?_
    clear hK K
    refine wpAnyE_one (i := 11) (by kernel_rfl) rfl (fun K hK => ?_)
    go_simp
    refine hK.out _ _ (fun _ => hSw) ?_
    clear hK K
    have f2 := HSd.out.frozen 2
    have cc2 := hSw.2
    refine wpAnyE_one (i := 12) (by kernel_rfl) rfl (fun K hK => ?_)
    go_simp
    have HSe := hid (HSd.out.setV (toS (macI mk g1.v)))
    have HEe := hid (HEd.out.setCell 2 (.string (toS (macI mk g1.v))))
    dsimp only at HSe
    generalize (wG.setCell ⟨Y, 2, none⟩ (.string (toS (macI mk g1.v)))) = wF at *
    refine hK.out _ _ (fun h => absurd rfl h) ?_
    clear hK K hSw cc2 f2 HSd HEd
    refine wpAnyE_done (by kernel_rfl) ?_ _
    have hres : Hd (stirG g (bts d) = ⟨mk, macI mk g1.v⟩) := hid (by rw [hst.out, he.out, stepG_eq])
    go_wp2
    go_end0
    rw [hres.out]
    dsimp only
    exact ⟨rfl, HSe.out, HEe.out⟩
end Go.Proofs.YtbifmhbkmnofiaaGreat
