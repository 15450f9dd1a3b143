import Derived.Test.YtbifmhbkmnofiaaGreatMr
namespace Go.Proofs.YtbifmhbkmnofiaaGreat
open Go.RowKit
set_option linter.unusedVariables false
set_option linter.unusedSimpArgs false

set_option maxHeartbeats 1000000 in
theorem rnew_m (e n m : ByteArray) (w : World) (he : may e = true) (hn : n.size ≤ 64) (hm : m.size ≤ 64) :
    Calls Tryz.prog 30 #[.int .i64 1, .string e, .string n, .string m] w fun en w' => ∃ Y, en = .returned (.tuple #[.pointer (some ⟨Y, 0, none⟩), .int .i64 0]) ∧ w.heap.size ≤ Y ∧ RsAt w' Y ⟨1, toS (seedG (bts e ++ bts n ++ bts m)).k, toS (seedG (bts e ++ bts n ++ bts m)).v, ⟨#[]⟩, 1⟩ ∧ Below w.heap.size w w' := by
  have hes : 16 ≤ e.size ∧ e.size ≤ 64 := of_decide_eq_true he
  have h1 : (16 : Int) ≤ e.size := by omega
  have h2 : (e.size : Int) ≤ 64 := by omega
  have h3 : (n.size : Int) ≤ 64 := by omega
  have h4 : (m.size : Int) ≤ 64 := by omega
  have hbt := hid (bts3 e n m)
  have hsz : (e ++ n ++ m).size ≤ 1000 := by rw [ByteArray.size_append, ByteArray.size_append]; omega
  go_enter Tryz.func30, Tryz.ntmps30
  go_wp2_with fail
  refine (made_m (e ++ n ++ m) _ hsz).mono ?_
  rintro en w1 ⟨Y, rfl, hY, hS, hB⟩
  rw [hbt.out] at hS
  go_wp2
  go_ret2
  exact ⟨Y, rfl, hY, hS, hB⟩

set_option maxHeartbeats 1000000 in
theorem rnew_s (e n m : ByteArray) (w : World) (he : may e = true) (hn : n.size ≤ 64) (hm : m.size ≤ 64) :
    Calls Tryz.prog 30 #[.int .i64 2, .string e, .string n, .string m] w fun en w' => ∃ Y, en = .returned (.tuple #[.pointer (some ⟨Y, 0, none⟩), .int .i64 0]) ∧ w.heap.size ≤ Y ∧ RsAt w' Y ⟨2, ⟨#[]⟩, toS (beginS (bts e ++ bts n ++ bts m)).v, toS (beginS (bts e ++ bts n ++ bts m)).c, 1⟩ ∧ Below w.heap.size w w' := by
  have hes : 16 ≤ e.size ∧ e.size ≤ 64 := of_decide_eq_true he
  have h1 : (16 : Int) ≤ e.size := by omega
  have h2 : (e.size : Int) ≤ 64 := by omega
  have h3 : (n.size : Int) ≤ 64 := by omega
  have h4 : (m.size : Int) ≤ 64 := by omega
  have hbt := hid (bts3 e n m)
  have hsz : (e ++ n ++ m).size ≤ 1000 := by rw [ByteArray.size_append, ByteArray.size_append]; omega
  go_enter Tryz.func30, Tryz.ntmps30
  go_wp2_with fail
  refine (made_s (e ++ n ++ m) _ hsz).mono ?_
  rintro en w1 ⟨Y, rfl, hY, hS, hB⟩
  rw [hbt.out] at hS
  go_wp2
  go_ret2
  exact ⟨Y, rfl, hY, hS, hB⟩

set_option maxRecDepth 20000 in
set_option maxHeartbeats 1000000 in
theorem rnew_kind (k : Int) (e n m : ByteArray) (w : World) (h1 : k ≠ 1) (h2 : k ≠ 2) :
    Calls Tryz.prog 30 #[.int .i64 k, .string e, .string n, .string m] w fun en w' => en = .returned (.tuple #[.pointer none, .int .i64 1]) ∧ w' = w := by
  have b1 : (k != 1) = true := by simp [h1]
  have b2 : (k != 2) = true := by simp [h2]
  clear h1 h2
  go_enter Tryz.func30, Tryz.ntmps30
  go_wp2
  go_ret2
  exact ⟨rfl, rfl⟩
theorem may_no {e : ByteArray} (h : may e = false) : e.size < 16 ∨ 64 < e.size := by
  have := of_decide_eq_false h
  omega
set_option maxHeartbeats 1000000 in
theorem rnew_arg (k : Int) (e n m : ByteArray) (w : World) (hk : k = 1 ∨ k = 2) (h : may e = false ∨ 64 < n.size ∨ 64 < m.size) (he : e.size ≤ 9223372036854775807) (hn : n.size ≤ 9223372036854775807) (hm : m.size ≤ 9223372036854775807) :
    Calls Tryz.prog 30 #[.int .i64 k, .string e, .string n, .string m] w fun en w' => en = .returned (.tuple #[.pointer none, .int .i64 2]) ∧ w' = w := by
  by_cases h1 : e.size < 16
  · have h1' : (e.size : Int) < 16 := by omega
    clear h
    rcases hk with rfl | rfl
    all_goals
      go_enter Tryz.func30, Tryz.ntmps30
      go_wp2
      go_ret2
      exact ⟨rfl, rfl⟩
  · have h1' : ¬ (e.size : Int) < 16 := by omega
    by_cases h2 : 64 < e.size
    · have h2' : (64 : Int) < e.size := by omega
      clear h
      rcases hk with rfl | rfl
      all_goals
        go_enter Tryz.func30, Tryz.ntmps30
        go_wp2
        go_ret2
        exact ⟨rfl, rfl⟩
    · have h2' : ¬ (64 : Int) < e.size := by omega
      by_cases h3 : 64 < n.size
      · have h3' : (64 : Int) < n.size := by omega
        clear h
        rcases hk with rfl | rfl
        all_goals
          go_enter Tryz.func30, Tryz.ntmps30
          go_wp2
          go_ret2
          exact ⟨rfl, rfl⟩
      · have h3' : ¬ (64 : Int) < n.size := by omega
        have h4' : (64 : Int) < m.size := by
          rcases h with h | h | h
          · rcases may_no h with h | h
            · omega
            · omega
          · omega
          · omega
        clear h
        rcases hk with rfl | rfl
        all_goals
          go_enter Tryz.func30, Tryz.ntmps30
          go_wp2
          go_ret2
          exact ⟨rfl, rfl⟩
set_option maxHeartbeats 1000000 in
theorem rreseed_arg (e x : ByteArray) (Y : Nat) (w : World) (h : may e = false ∨ 64 < x.size) (he : e.size ≤ 9223372036854775807) (hx : x.size ≤ 9223372036854775807) :
    Calls Tryz.prog 32 #[.pointer (some ⟨Y, 0, none⟩), .string e, .string x] w fun en w' => en = .returned (.int .i64 2) ∧ w' = w := by
  by_cases h1 : e.size < 16
  · have h1' : (e.size : Int) < 16 := by omega
    clear h
    go_enter Tryz.func32, Tryz.ntmps32
    go_wp2
    go_ret
    exact ⟨rfl, rfl⟩
  · have h1' : ¬ (e.size : Int) < 16 := by omega
    by_cases h2 : 64 < e.size
    · have h2' : (64 : Int) < e.size := by omega
      clear h
      go_enter Tryz.func32, Tryz.ntmps32
      go_wp2
      go_ret
      exact ⟨rfl, rfl⟩
    · have h2' : ¬ (64 : Int) < e.size := by omega
      have h3' : (64 : Int) < x.size := by
        rcases h with h | h
        · rcases may_no h with h | h
          · omega
          · omega
        · omega
      clear h
      go_enter Tryz.func32, Tryz.ntmps32
      go_wp2
      go_ret
      exact ⟨rfl, rfl⟩
set_option maxRecDepth 20000 in
set_option maxHeartbeats 1000000 in
theorem rreseed_m (g : MG) (r : Int) (e x : ByteArray) (Y : Nat) (w : World) (gok : g.ok) (gB : g.B) (hS : RsAt w Y ⟨1, toS g.k, toS g.v, ⟨#[]⟩, r⟩) (he : may e = true) (hx : x.size ≤ 64) :
    Calls Tryz.prog 32 #[.pointer (some ⟨Y, 0, none⟩), .string e, .string x] w fun en w' => en = .returned (.int .i64 0) ∧ RsAt w' Y ⟨1, toS (stirG g (bts e ++ bts x)).k, toS (stirG g (bts e ++ bts x)).v, ⟨#[]⟩, 1⟩ ∧ Ex Y w w' := by
  have hes : 16 ≤ e.size ∧ e.size ≤ 64 := of_decide_eq_true he
  have h1 : (16 : Int) ≤ e.size := by omega
  have h2 : (e.size : Int) ≤ 64 := by omega
  have h3 : (x.size : Int) ≤ 64 := by omega
  have hbt := hid (bts_append e x)
  have hsz : (e ++ x).size ≤ 1000 := by rw [ByteArray.size_append]; omega
  have c4 := hS.c4
  have f4 := hS.frozen 4
  have hS1 := hS.setR 1
  have c0 := hS1.c0
  dsimp only at hS1 c0
  have HS1 := hid hS1
  have HE1 := hid ((Ex.refl Y w).setCell 4 (.int .i64 1))
  clear hS hS1
  go_enter Tryz.func32, Tryz.ntmps32
  go_wp2_with fail
  generalize (w.setCell ⟨Y, 4, none⟩ (.int .i64 1)) = w1 at *
  refine (rstir_any g 1 (e ++ x) Y _ gok gB HS1.out hsz).mono ?_
  rintro en w2 ⟨rfl, hS2, hE2⟩
  rw [hbt.out] at hS2
  have HS2 := hid hS2
  have HE2 := hid (HE1.out.trans hE2)
  clear hS2 hE2 HS1 HE1
  go_wp2
  go_ret
  exact ⟨rfl, HS2.out, HE2.out⟩

theorem bts_1v (v : List Int) (e x : ByteArray) (hv : allB v) : bts (toS [1] ++ toS v ++ e ++ x) = 1 :: (v ++ (bts e ++ bts x)) := by
  rw [bts_append, bts_append, bts_append, bts_toS v hv, bts_toS [1] (by intro y hy; simp at hy; subst hy; omega)]; simp
set_option maxRecDepth 20000 in
set_option maxHeartbeats 1000000 in
theorem rreseed_s (g : SG) (r : Int) (e x : ByteArray) (Y : Nat) (w : World) (gok : g.ok) (hS : RsAt w Y ⟨2, ⟨#[]⟩, toS g.v, toS g.c, r⟩) (he : may e = true) (hx : x.size ≤ 64) :
    Calls Tryz.prog 32 #[.pointer (some ⟨Y, 0, none⟩), .string e, .string x] w fun en w' => en = .returned (.int .i64 0) ∧ RsAt w' Y ⟨2, ⟨#[]⟩, toS (reseedS g (bts e ++ bts x)).v, toS (reseedS g (bts e ++ bts x)).c, 1⟩ ∧ Ex Y w w' := by
  have hes : 16 ≤ e.size ∧ e.size ≤ 64 := of_decide_eq_true he
  have h1 : (16 : Int) ≤ e.size := by omega
  have h2 : (e.size : Int) ≤ 64 := by omega
  have h3 : (x.size : Int) ≤ 64 := by omega
  have hbt := hid (bts_1v g.v e x gok.vb)
  have hgs : (toS g.v).size = 55 := by rw [toS_size, gok.vl]
  have hbv : Hd ((reseedS g (bts e ++ bts x)).v = stretchI (1 :: (g.v ++ (bts e ++ bts x)))) := hid (by rw [reseedS_eq, beginS_eq])
  have hbc : Hd ((reseedS g (bts e ++ bts x)).c = stretchI (0 :: stretchI (1 :: (g.v ++ (bts e ++ bts x))))) := hid (by rw [reseedS_eq, beginS_eq])
  have c4 := hS.c4
  have f4 := hS.frozen 4
  have hS1 := hS.setR 1
  have c0 := hS1.c0
  dsimp only at hS1 c0
  have HS1 := hid hS1
  have HE1 := hid ((Ex.refl Y w).setCell 4 (.int .i64 1))
  clear hS hS1
  go_enter Tryz.func32, Tryz.ntmps32
  go_wp2_with fail
  generalize (w.setCell ⟨Y, 4, none⟩ (.int .i64 1)) = w1 at *
  refine wp_region_E (S := fun w' => w'.cell? ⟨Y, 2, none⟩ = some (.string (toS g.v))) 15 (by kernel_rfl) HS1.out.c2 (fun hSw => ?_)
  refine wpAnyE_take (i := 0) (v := ?_) rfl (by decide +kernel) (by decide) (by decide +kernel) (by decide +kernel) (by decide +kernel) (fun _ _ _ h => h) (Or.inl ⟨by rfl, ?_⟩) hSw ?_
  rotate_left
  · intro w hw; go_simp; try with_reducible rfl
  simp only [Act.put, List.getElem_toArray, List.getElem_cons_zero, List.getElem_cons_succ, List.setIfInBounds_toArray, List.set_cons_zero, List.set_cons_succ]
  refine wpAnyE_take (i := 3) (v := ?_) rfl (by decide +kernel) (by decide) (by decide +kernel) (by decide +kernel) (by decide +kernel) (fun _ _ _ h => h) (Or.inl ⟨by rfl, ?_⟩) hSw ?_
  rotate_left
  · intro w hw; go_simp; try with_reducible rfl
  simp only [Act.put, List.getElem_toArray, List.getElem_cons_zero, List.getElem_cons_succ, List.setIfInBounds_toArray, List.set_cons_zero, List.set_cons_succ]
  refine wpAnyE_take (i := 4) (v := ?_) rfl (by decide +kernel) (by decide) (by decide +kernel) (by decide +kernel) (by decide +kernel) (fun _ _ _ h => h) (Or.inl ⟨by rfl, ?_⟩) hSw ?_
  rotate_left
  · intro w hw; go_simp; try with_reducible rfl
  simp only [Act.put, List.getElem_toArray, List.getElem_cons_zero, List.getElem_cons_succ, List.setIfInBounds_toArray, List.set_cons_zero, List.set_cons_succ]
  refine wpAnyE_take (i := 5) (v := ?_) rfl (by decide +kernel) (by decide) (by decide +kernel) (by decide +kernel) (by decide +kernel) (fun _ _ _ h => h) (Or.inl ⟨by rfl, ?_⟩) hSw ?_
  rotate_left
  · intro w hw; go_simp; try with_reducible rfl
  simp only [Act.put, List.getElem_toArray, List.getElem_cons_zero, List.getElem_cons_succ, List.setIfInBounds_toArray, List.set_cons_zero, List.set_cons_succ]
  refine wpAnyE_take (i := 6) (v := ?_) rfl (by decide +kernel) (by decide) (by decide +kernel) (by decide +kernel) (by decide +kernel) (fun _ _ _ h => h) (Or.inl ⟨by rfl, ?_⟩) hSw ?_
  rotate_left
  · intro w hw; have hcell := hw; clear hw; go_simp; try with_reducible rfl
  simp only [Act.put, List.getElem_toArray, List.getElem_cons_zero, List.getElem_cons_succ, List.setIfInBounds_toArray, List.set_cons_zero, List.set_cons_succ]
  refine wpAnyE_take (i := 8) (v := ?_) rfl (by decide +kernel) (by decide) (by decide +kernel) (by decide +kernel) (by decide +kernel) (fun _ _ _ h => h) (Or.inl ⟨by rfl, ?_⟩) hSw ?_
  rotate_left
  · intro w hw; go_simp; try with_reducible rfl
  simp only [Act.put, List.getElem_toArray, List.getElem_cons_zero, List.getElem_cons_succ, List.setIfInBounds_toArray, List.set_cons_zero, List.set_cons_succ]
  refine wpAnyE_take (i := 10) (v := ?_) rfl (by decide +kernel) (by decide) (by decide +kernel) (by decide +kernel) (by decide +kernel) (fun _ _ _ h => h) (Or.inl ⟨by rfl, ?_⟩) hSw ?_
  rotate_left
  · intro w hw; go_simp; try with_reducible rfl
  simp only [Act.put, List.getElem_toArray, List.getElem_cons_zero, List.getElem_cons_succ, List.setIfInBounds_toArray, List.set_cons_zero, List.set_cons_succ]
  refine wpAnyE_one (i := 1) (by kernel_rfl) rfl (fun K hK => ?_)
  go_simp
  have hBa : Below w1.heap.size w1 (w1.alloc (.cells #[Value.int .u8 1] 5)) := (Below.refl _ _).alloc (Nat.le_refl _) _
  have hob := hid (one_byt w1 1)
  have HS2 := hid (HS1.out.below hBa)
  have HE2 := hid (HE1.out.trans (Ex.of_below (B := Y) hBa))
  generalize (w1.alloc (.cells #[Value.int .u8 1] 5)) = w2 at *
  replace hSw : w2.drew.cell? ⟨Y, 2, none⟩ = some (.string (toS g.v)) := HS2.out.c2
  refine hK.out _ _ (fun _ => hSw) ?_
  clear hK K HS1 HE1 hBa
  refine wpAnyE_one (i := 2) (by kernel_rfl) rfl (fun K hK => ?_)
  rw [if_pos (by rfl)]
  refine wp_str _ rfl _ [1] rfl (show Byt w2.drew _ _ from hob.out) ?_
  refine hK.out _ _ (fun _ => hSw) ?_
  clear hK K hob
  have h1s := toS_one 1
  have hcz : (toS [1] ++ toS g.v ++ e ++ x).size ≤ 1000 := by rw [ByteArray.size_append, ByteArray.size_append, ByteArray.size_append]; omega
  generalize hone : toS [1] = one at *
  generalize toS g.v = tv at *
  have n1 : ¬ 9223372036854775807 < 56 + e.size := by omega
  have n2 : ¬ 9223372036854775807 < 56 + e.size + x.size := by omega
  refine wpAnyE_take (i := 7) (v := ?_) rfl (by decide +kernel) (by decide) (by decide +kernel) (by decide +kernel) (by decide +kernel) (fun _ _ _ h => h) (Or.inl ⟨by rfl, ?_⟩) hSw ?_
  rotate_left
  · intro w hw; go_simp; try with_reducible rfl
  simp only [Act.put, List.getElem_toArray, List.getElem_cons_zero, List.getElem_cons_succ, List.setIfInBounds_toArray, List.set_cons_zero, List.set_cons_succ]
  refine wpAnyE_take (i := 9) (v := ?_) rfl (by decide +kernel) (by decide) (by decide +kernel) (by decide +kernel) (by decide +kernel) (fun _ _ _ h => h) (Or.inl ⟨by rfl, ?_⟩) hSw ?_
  rotate_left
  · intro w hw; go_simp; try with_reducible rfl
  simp only [Act.put, List.getElem_toArray, List.getElem_cons_zero, List.getElem_cons_succ, List.setIfInBounds_toArray, List.set_cons_zero, List.set_cons_succ]
  refine wpAnyE_take (i := 11) (v := ?_) rfl (by decide +kernel) (by decide) (by decide +kernel) (by decide +kernel) (by decide +kernel) (fun _ _ _ h => h) (Or.inl ⟨by rfl, ?_⟩) hSw ?_
  rotate_left
  · intro w hw; go_simp; try with_reducible rfl
  simp only [Act.put, List.getElem_toArray, List.getElem_cons_zero, List.getElem_cons_succ, List.setIfInBounds_toArray, List.set_cons_zero, List.set_cons_succ]
  refine wpAnyE_one (i := 12) (by kernel_rfl) rfl (fun K hK => ?_)
  go_simp
  refine (rstretch_any (one ++ tv ++ e ++ x) _ hcz).mono ?_
  rintro en w4 ⟨rfl, hB4⟩
  rw [hbt.out]
  have HS4 := hid ((show RsAt w2.drew Y _ from HS2.out).below hB4)
  have HE4 := hid (HE2.out.drew.trans (Ex.of_below (B := Y) hB4))
  replace hSw := HS4.out.c2
  dsimp only at hSw
  refine hK.out _ _ (fun _ => hSw) ?_
  clear hK K hB4 HS2 HE2
  refine wpAnyE_one (i := 13) (by kernel_rfl) rfl (fun K hK => ?_)
  go_simp
  refine hK.out _ _ (fun _ => hSw) ?_
  clear hK K
  refine wpAnyE_one (i := 14) (by kernel_rfl) rfl (fun K hK => ?_)
  go_simp
  refine hK.out _ _ (fun _ => hSw) ?_
  clear hK K
  have f2 := HS4.out.frozen 2
  have cc2 := hSw
  refine wpAnyE_one (i := 15) (by kernel_rfl) rfl (fun K hK => ?_)
  go_simp
  have hvl := stretchI_len (1 :: (g.v ++ (bts e ++ bts x)))
  have hvB := stretchI_B (1 :: (g.v ++ (bts e ++ bts x)))
  generalize stretchI (1 :: (g.v ++ (bts e ++ bts x))) = V at *
  have HS5 := hid (HS4.out.setV (toS V))
  have HE5 := hid (HE4.out.setCell 2 (.string (toS V)))
  dsimp only at HS5
  generalize (w4.setCell ⟨Y, 2, none⟩ (.string (toS V))) = w5 at *
  refine hK.out _ _ (fun h => absurd rfl h) ?_
  clear hK K hSw cc2 f2 HS4 HE4
  refine wpAnyE_done (by kernel_rfl) ?_ _
  have hvs : (toS V).size = 55 := by rw [toS_size, hvl]
  have hz1 := hid (bts_z1 V hvB)
  go_wp2_with fail
  refine wp_region_E (S := fun w' => w'.cell? ⟨Y, 2, none⟩ = some (.string (toS V))) 10 (by kernel_rfl) HS5.out.c2 (fun hSw => ?_)
  refine wpAnyE_take (i := 0) (v := ?_) rfl (by decide +kernel) (by decide) (by decide +kernel) (by decide +kernel) (by decide +kernel) (fun _ _ _ h => h) (Or.inl ⟨by rfl, ?_⟩) hSw ?_
  rotate_left
  · intro w hw; go_simp; try with_reducible rfl
  simp only [Act.put, List.getElem_toArray, List.getElem_cons_zero, List.getElem_cons_succ, List.setIfInBounds_toArray, List.set_cons_zero, List.set_cons_succ]
  refine wpAnyE_take (i := 2) (v := ?_) rfl (by decide +kernel) (by decide) (by decide +kernel) (by decide +kernel) (by decide +kernel) (fun _ _ _ h => h) (Or.inl ⟨by rfl, ?_⟩) hSw ?_
  rotate_left
  · intro w hw; go_simp; try with_reducible rfl
  simp only [Act.put, List.getElem_toArray, List.getElem_cons_zero, List.getElem_cons_succ, List.setIfInBounds_toArray, List.set_cons_zero, List.set_cons_succ]
  refine wpAnyE_take (i := 3) (v := ?_) rfl (by decide +kernel) (by decide) (by decide +kernel) (by decide +kernel) (by decide +kernel) (fun _ _ _ h => h) (Or.inl ⟨by rfl, ?_⟩) hSw ?_
  rotate_left
  · intro w hw; go_simp; try with_reducible rfl
  simp only [Act.put, List.getElem_toArray, List.getElem_cons_zero, List.getElem_cons_succ, List.setIfInBounds_toArray, List.set_cons_zero, List.set_cons_succ]
  refine wpAnyE_take (i := 4) (v := ?_) rfl (by decide +kernel) (by decide) (by decide +kernel) (by decide +kernel) (by decide +kernel) (fun _ _ _ h => h) (Or.inl ⟨by rfl, ?_⟩) hSw ?_
  rotate_left
  · intro w hw; go_simp; try with_reducible rfl
  simp only [Act.put, List.getElem_toArray, List.getElem_cons_zero, List.getElem_cons_succ, List.setIfInBounds_toArray, List.set_cons_zero, List.set_cons_succ]
  refine wpAnyE_take (i := 5) (v := ?_) rfl (by decide +kernel) (by decide) (by decide +kernel) (by decide +kernel) (by decide +kernel) (fun _ _ _ h => h) (Or.inl ⟨by rfl, ?_⟩) hSw ?_
  rotate_left
  · intro w hw; have hcell := hw; clear hw; go_simp; try with_reducible rfl
  simp only [Act.put, List.getElem_toArray, List.getElem_cons_zero, List.getElem_cons_succ, List.setIfInBounds_toArray, List.set_cons_zero, List.set_cons_succ]
  refine wpAnyE_one (i := 1) (by kernel_rfl) rfl (fun K hK => ?_)
  go_simp
  refine (zeros_any 1 _ (by omega)).mono ?_
  rintro en w6 ⟨rfl, hB6⟩
  have HS6 := hid ((show RsAt w5.drew Y _ from HS5.out).below hB6)
  have HE6 := hid (HE5.out.drew.trans (Ex.of_below (B := Y) hB6))
  replace hSw := HS6.out.c2
  dsimp only at hSw
  refine hK.out _ _ (fun _ => hSw) ?_
  clear hK K hB6 HS5 HE5
  have z1 : (toS (zeros 1)).size = 1 := by rw [toS_size, zeros_len]
  have hcz : (toS (zeros 1) ++ toS V).size = 56 := by rw [ByteArray.size_append]; omega
  generalize toS (zeros 1) = zo at *
  refine wpAnyE_take (i := 6) (v := ?_) rfl (by decide +kernel) (by decide) (by decide +kernel) (by decide +kernel) (by decide +kernel) (fun _ _ _ h => h) (Or.inl ⟨by rfl, ?_⟩) hSw ?_
  rotate_left
  · intro w hw; go_simp; try with_reducible rfl
  simp only [Act.put, List.getElem_toArray, List.getElem_cons_zero, List.getElem_cons_succ, List.setIfInBounds_toArray, List.set_cons_zero, List.set_cons_succ]
  refine wpAnyE_one (i := 7) (by kernel_rfl) rfl (fun K hK => ?_)
  go_simp
  refine (rstretch_any (zo ++ toS V) _ (by omega)).mono ?_
  rintro en w7 ⟨rfl, hB7⟩
  rw [hz1.out]
  have HS7 := hid (HS6.out.below hB7)
  have HE7 := hid (HE6.out.trans (Ex.of_below (B := Y) hB7))
  replace hSw := HS7.out.c2
  dsimp only at hSw
  refine hK.out _ _ (fun _ => hSw) ?_
  clear hK K hB7 HS6 HE6
  refine wpAnyE_one (i := 8) (by kernel_rfl) rfl (fun K hK => ?_)
  go_simp
  refine hK.out _ _ (fun _ => hSw) ?_
  clear hK K
  refine wpAnyE_one (i := 9) (by kernel_rfl) rfl (fun K hK => ?_)
  go_simp
  refine hK.out _ _ (fun _ => hSw) ?_
  clear hK K
  have f3 := HS7.out.frozen 3
  have cc3 := HS7.out.c3
  refine wpAnyE_one (i := 10) (by kernel_rfl) rfl (fun K hK => ?_)
  go_simp
  have HS8 := hid (HS7.out.setC (toS (stretchI (0 :: V))))
  have HE8 := hid (HE7.out.setCell 3 (.string (toS (stretchI (0 :: V)))))
  dsimp only at HS8
  generalize (w7.setCell ⟨Y, 3, none⟩ (.string (toS (stretchI (0 :: V))))) = w8 at *
  refine hK.out _ _ (fun h => absurd rfl h) ?_
  clear hK K hSw cc3 f3 HS7 HE7
  refine wpAnyE_done (by kernel_rfl) ?_ _
  go_wp2
  go_ret
  rw [hbv.out, hbc.out]
  exact ⟨rfl, HS8.out, HE8.out⟩

end Go.Proofs.YtbifmhbkmnofiaaGreat
