import Derived.Test.YtbifmhbkmnofiaaGreatMs
namespace Go.Proofs.YtbifmhbkmnofiaaGreat
open Go.RowKit
set_option linter.unusedVariables false
set_option linter.unusedSimpArgs false
set_option maxHeartbeats 1000000 in
theorem rread_arg (n : Int) (x : ByteArray) (Y : Nat) (w : World) (h : n < 0 ∨ 200 < n ∨ 64 < x.size) (hx : x.size ≤ 9223372036854775807) :
    Calls Tryz.prog 34 #[.pointer (some ⟨Y, 0, none⟩), .int .i64 n, .string x] w fun en w' => en = .returned (.tuple #[.string ⟨#[]⟩, .int .i64 2]) ∧ w' = w := by
  by_cases h1 : n < 0
  · clear h
    go_enter Tryz.func34, Tryz.ntmps34
    go_wp2
    go_ret2
    exact ⟨rfl, rfl⟩
  · by_cases h2 : 200 < n
    · clear h
      go_enter Tryz.func34, Tryz.ntmps34
      go_wp2
      go_ret2
      exact ⟨rfl, rfl⟩
    · have h3 : (64 : Int) < x.size := by omega
      clear h
      go_enter Tryz.func34, Tryz.ntmps34
      go_wp2
      go_ret2
      exact ⟨rfl, rfl⟩
set_option maxHeartbeats 1000000 in
theorem rread_over (s : RS) (n : Nat) (x : ByteArray) (Y : Nat) (w : World) (hS : RsAt w Y s) (hx : x.size ≤ 64) (hn : n ≤ 200) (hr : 8 < s.r) :
    Calls Tryz.prog 34 #[.pointer (some ⟨Y, 0, none⟩), .int .i64 n, .string x] w fun en w' => en = .returned (.tuple #[.string ⟨#[]⟩, .int .i64 3]) ∧ w' = w := by
  have c4 := hS.c4
  have hx' : (x.size : Int) ≤ 64 := by omega
  have hn' : (n : Int) ≤ 200 := by omega
  clear hS
  generalize s.r = r at *
  go_enter Tryz.func34, Tryz.ntmps34
  go_wp2
  go_ret2
  exact ⟨rfl, rfl⟩
theorem outG_succ (g : MG) (k : Nat) : outG g (k + 1) = outG g k ++ (stepN g (k + 1)).v := rfl
theorem outG_len {g : MG} (h : g.ok) (k : Nat) : (outG g k).length = 32 * k := rows32_len _ (fun j => stepN_vl h (j + 1)) k

set_option maxRecDepth 20000 in
set_option maxHeartbeats 2000000 in
theorem rread_m (g : MG) (r : Int) (n : Nat) (x : ByteArray) (Y : Nat) (w : World) (hg : g.ok) (hB : g.B) (hS : RsAt w Y ⟨1, toS g.k, toS g.v, ⟨#[]⟩, r⟩) (hx : x.size ≤ 64) (hn : n ≤ 200) (hr0 : 0 ≤ r) (hr : r ≤ 8) :
    Calls Tryz.prog 34 #[.pointer (some ⟨Y, 0, none⟩), .int .i64 n, .string x] w fun en w' => en = .returned (.tuple #[.string (toS (bytesM g n (bts x))), .int .i64 0]) ∧ RsAt w' Y ⟨1, toS (behindM g n (bts x)).k, toS (behindM g n (bts x)).v, ⟨#[]⟩, r + 1⟩ ∧ Ex Y w w' := by
  have c4 := hS.c4
  have c0 := hS.c0
  dsimp only at c4 c0
  have hx' : (x.size : Int) ≤ 64 := by omega
  have hn' : (n : Int) ≤ 200 := by omega
  have hg1 := readG_ok hg (bts x)
  have hB1 : (readG g (bts x)).B := by
    unfold readG
    split
    · exact hB
    · exact stirG_B hB _
  have HR := hid (show bytesM g n (bts x) = (outG (readG g (bts x)) (blk n)).take n from rfl)
  have HB := hid (show behindM g n (bts x) = stirG (stepN (readG g (bts x)) (blk n)) (bts x) from rfl)
  go_enter Tryz.func34, Tryz.ntmps34
  by_cases h0 : x = ⟨#[]⟩
  · subst h0
    have e1 : readG g (bts ⟨#[]⟩) = g := by unfold readG; rw [if_pos (show bts ⟨#[]⟩ = [] from rfl)]
    have HS1 : Hd (RsAt w Y ⟨1, toS (readG g (bts ⟨#[]⟩)).k, toS (readG g (bts ⟨#[]⟩)).v, ⟨#[]⟩, r⟩) := hid (by rw [e1]; exact hS)
    have HE1 := hid (Ex.refl Y w)
    clear hS e1
    generalize readG g (bts ⟨#[]⟩) = g1 at *
    go_wp2_with fail
    go_loopw [8] (fun v wr => ∃ k : Nat, k ≤ blk n ∧ v = .string (toS (outG g1 k)) ∧ RsAt wr Y ⟨1, toS (stepN g1 k).k, toS (stepN g1 k).v, ⟨#[]⟩, r⟩ ∧ Ex Y w wr) (fun v _ => n + 100 - strLen v)
    case atStart => exact ⟨0, by omega, rfl, HS1.out, HE1.out⟩
    case round =>
      clear HS1 HE1
      obtain ⟨k, hk, rfl, hS, hE⟩ := hrel
      have hol := outG_len hg1 k
      have hbn : blk n = (n + 31) / 32 := rfl
      have hos : (toS (outG g1 k)).size = 32 * k := by rw [toS_size, hol]
      have gok := stepN_ok hg1 k
      have gB := stepN_B hB1 k
      have HS := hid hS
      have HE := hid hE
      clear hS hE
      by_cases hlt : 32 * k < n
      · have hlt' : ((32 * k : Nat) : Int) < n := by omega
        have hsn : Hd (stepN g1 (k + 1) = stepG (stepN g1 k)) := hid (by simp only [stepN])
        have hou := hid (outG_succ g1 k)
        have hsl2 : Hd (strLen (.string (toS (outG g1 (k + 1)))) = 32 * (k + 1)) := hid (by show (toS (outG g1 (k + 1))).size = _; rw [toS_size, outG_len hg1])
        have hsl1 : Hd (strLen (.string (toS (outG g1 k))) = 32 * k) := hid hos
        have hcat : Hd (toS (outG g1 k) ++ toS (stepN g1 (k + 1)).v = toS (outG g1 (k + 1))) := hid (by rw [toS_append, hou.out])
        have he : Hd ((stepN g1 (k + 1)).v = macI (stepN g1 k).k (stepN g1 k).v) := hid (by rw [hsn.out, stepG_v])
        have hek : Hd ((stepN g1 (k + 1)).k = (stepN g1 k).k) := hid (by rw [hsn.out, stepG_k])
        have hkb := hid (bts_toS _ gB.kb)
        have hvb := hid (bts_toS _ gB.vb)
        have hks : (toS (stepN g1 k).k).size = 32 := by rw [toS_size, gok.kl]
        have hvs : (toS (stepN g1 k).v).size = 32 := by rw [toS_size, gok.vl]
        generalize hO0 : toS (outG g1 k) = O0 at *
        generalize hO1 : toS (outG g1 (k + 1)) = O1 at *
        have HO1 := hid hO1
        clear hO0 hO1 hou
        generalize (stepN g1 k).k = K0 at *
        generalize (stepN g1 k).v = V0 at *
        go_wp2_with fail
        refine wp_region_E (S := fun w' => w'.cell? ⟨Y, 1, none⟩ = some (.string (toS K0)) ∧ w'.cell? ⟨Y, 2, none⟩ = some (.string (toS V0))) 12 (by kernel_rfl) ⟨HS.out.c1, HS.out.c2⟩ (fun hSw => ?_)
        refine wpAnyE_take (i := 0) (v := ?_) rfl (by decide +kernel) (by decide) (by decide +kernel) (by decide +kernel) (by decide +kernel) (fun _ _ _ h => h) (Or.inl ⟨by rfl, ?_⟩) hSw ?_
        rotate_left
        · intro w hw; go_simp; try with_reducible rfl
        simp only [Act.put, List.getElem_toArray, List.getElem_cons_zero, List.getElem_cons_succ, List.setIfInBounds_toArray, List.set_cons_zero, List.set_cons_succ]
        refine wpAnyE_take (i := 1) (v := ?_) rfl (by decide +kernel) (by decide) (by decide +kernel) (by decide +kernel) (by decide +kernel) (fun _ _ _ h => h) (Or.inl ⟨by rfl, ?_⟩) hSw ?_
        rotate_left
        · intro w hw; go_simp; try with_reducible rfl
        simp only [Act.put, List.getElem_toArray, List.getElem_cons_zero, List.getElem_cons_succ, List.setIfInBounds_toArray, List.set_cons_zero, List.set_cons_succ]
        refine wpAnyE_take (i := 2) (v := ?_) rfl (by decide +kernel) (by decide) (by decide +kernel) (by decide +kernel) (by decide +kernel) (fun _ _ _ h => h) (Or.inl ⟨by rfl, ?_⟩) hSw ?_
        rotate_left
        · intro w hw; go_simp; try with_reducible rfl
        simp only [Act.put, List.getElem_toArray, List.getElem_cons_zero, List.getElem_cons_succ, List.setIfInBounds_toArray, List.set_cons_zero, List.set_cons_succ]
        refine wpAnyE_take (i := 3) (v := ?_) rfl (by decide +kernel) (by decide) (by decide +kernel) (by decide +kernel) (by decide +kernel) (fun _ _ _ h => h) (Or.inl ⟨by rfl, ?_⟩) hSw ?_
        rotate_left
        · intro w hw; go_simp; try with_reducible rfl
        simp only [Act.put, List.getElem_toArray, List.getElem_cons_zero, List.getElem_cons_succ, List.setIfInBounds_toArray, List.set_cons_zero, List.set_cons_succ]
        refine wpAnyE_take (i := 4) (v := ?_) rfl (by decide +kernel) (by decide) (by decide +kernel) (by decide +kernel) (by decide +kernel) (fun _ _ _ h => h) (Or.inl ⟨by rfl, ?_⟩) hSw ?_
        rotate_left
        · intro w hw; have hcell := hw.1; clear hw; go_simp; try with_reducible rfl
        simp only [Act.put, List.getElem_toArray, List.getElem_cons_zero, List.getElem_cons_succ, List.setIfInBounds_toArray, List.set_cons_zero, List.set_cons_succ]
        refine wpAnyE_take (i := 5) (v := ?_) rfl (by decide +kernel) (by decide) (by decide +kernel) (by decide +kernel) (by decide +kernel) (fun _ _ _ h => h) (Or.inl ⟨by rfl, ?_⟩) hSw ?_
        rotate_left
        · intro w hw; go_simp; try with_reducible rfl
        simp only [Act.put, List.getElem_toArray, List.getElem_cons_zero, List.getElem_cons_succ, List.setIfInBounds_toArray, List.set_cons_zero, List.set_cons_succ]
        refine wpAnyE_take (i := 6) (v := ?_) rfl (by decide +kernel) (by decide) (by decide +kernel) (by decide +kernel) (by decide +kernel) (fun _ _ _ h => h) (Or.inl ⟨by rfl, ?_⟩) hSw ?_
        rotate_left
        · intro w hw; go_simp; try with_reducible rfl
        simp only [Act.put, List.getElem_toArray, List.getElem_cons_zero, List.getElem_cons_succ, List.setIfInBounds_toArray, List.set_cons_zero, List.set_cons_succ]
        refine wpAnyE_take (i := 7) (v := ?_) rfl (by decide +kernel) (by decide) (by decide +kernel) (by decide +kernel) (by decide +kernel) (fun _ _ _ h => h) (Or.inl ⟨by rfl, ?_⟩) hSw ?_
        rotate_left
        · intro w hw; go_simp; try with_reducible rfl
        simp only [Act.put, List.getElem_toArray, List.getElem_cons_zero, List.getElem_cons_succ, List.setIfInBounds_toArray, List.set_cons_zero, List.set_cons_succ]
        refine wpAnyE_take (i := 8) (v := ?_) rfl (by decide +kernel) (by decide) (by decide +kernel) (by decide +kernel) (by decide +kernel) (fun _ _ _ h => h) (Or.inl ⟨by rfl, ?_⟩) hSw ?_
        rotate_left
        · intro w hw; have hcell := hw.2; clear hw; go_simp; try with_reducible rfl
        simp only [Act.put, List.getElem_toArray, List.getElem_cons_zero, List.getElem_cons_succ, List.setIfInBounds_toArray, List.set_cons_zero, List.set_cons_succ]
        refine wpAnyE_one (i := 9) (by kernel_rfl) rfl (fun K hK => ?_)
        go_simp
        refine (rkeyed_any (toS K0) (toS V0) _ (by omega) (by omega)).mono ?_
        rintro e wD ⟨rfl, hBd⟩
        rw [hkb.out, hvb.out, ← he.out]
        have HSd := hid ((show RsAt wr.drew Y _ from HS.out).below hBd)
        have HEd := hid (HE.out.drew.trans (Ex.of_below (B := Y) hBd))
        refine hK.out _ _ (fun _ => ⟨HSd.out.c1, HSd.out.c2⟩) ?_
        replace hSw : wD.cell? ⟨Y, 1, none⟩ = some (.string (toS K0)) ∧ wD.cell? ⟨Y, 2, none⟩ = some (.string (toS V0)) := ⟨HSd.out.c1, HSd.out.c2⟩
        clear hK K HS HE hBd
        refine wpAnyE_one (i := 10) (by kernel_rfl) rfl (fun K hK => ?_)
        go_simp
        refine hK.out _ _ (fun _ => hSw) ?_
        clear hK K
        refine wpAnyE_one (i := 11) (by kernel_rfl) rfl (fun K hK => ?_)
        go_simp
        refine hK.out _ _ (fun _ => hSw) ?_
        clear hK K
        have f2 := HSd.out.frozen 2
        have cc2 := hSw.2
        refine wpAnyE_one (i := 12) (by kernel_rfl) rfl (fun K hK => ?_)
        go_simp
        have hvl1 : (toS (stepN g1 (k + 1)).v).size = 32 := by rw [toS_size, stepN_vl hg1]
        have hpr : Hd (⟨1, toS K0, toS (stepN g1 (k + 1)).v, ⟨#[]⟩, r⟩ = (⟨1, toS (stepN g1 (k + 1)).k, toS (stepN g1 (k + 1)).v, ⟨#[]⟩, r⟩ : RS)) := hid (by rw [hek.out])
        have HSe := hid (HSd.out.setV (toS (stepN g1 (k + 1)).v))
        have HEe := hid (HEd.out.setCell 2 (.string (toS (stepN g1 (k + 1)).v)))
        dsimp only at HSe
        generalize (wD.setCell ⟨Y, 2, none⟩ (.string (toS (stepN g1 (k + 1)).v))) = wE at *
        refine hK.out _ _ (fun h => absurd rfl h) ?_
        clear hK K hSw cc2 f2 HSd HEd he hek
        refine wpAnyE_done (by kernel_rfl) ?_ _
        have cc := HSe.out.c2
        dsimp only at cc
        have hnb : ¬ 9223372036854775807 < 32 * k + 32 := by omega
        have hHS : Hd (RsAt wE Y ⟨1, toS (stepN g1 (k + 1)).k, toS (stepN g1 (k + 1)).v, ⟨#[]⟩, r⟩) := hid (by rw [← hpr.out]; exact HSe.out)
        clear hpr HSe
        generalize hV1 : toS (stepN g1 (k + 1)).v = V1 at *
        have HV1 := hid hV1
        clear hV1
        go_wp2
        rw [hcat.out]
        refine ⟨⟨k + 1, by omega, by rw [HO1.out], by rw [HV1.out]; exact hHS.out, HEe.out⟩, ?_⟩
        rw [hsl1.out, hsl2.out]; omega
      · have hkb : k = blk n := by omega
        have hnl : ¬ ((32 * k : Nat) : Int) < n := by omega
        have hby : Hd ((toS (outG g1 k)).extract 0 n = toS (bytesM g n (bts ⟨#[]⟩))) := hid (by rw [toS_take, hkb, ← HR.out])
        have hbe : Hd (behindM g n (bts ⟨#[]⟩) = stirG (stepN g1 k) (bts ⟨#[]⟩)) := hid (by rw [HB.out, hkb])
        generalize toS (outG g1 k) = O0 at *
        generalize stepN g1 k = gk at *
        go_wp2_with fail
        refine (rstir_any gk r ⟨#[]⟩ Y _ gok gB HS.out (by omega)).mono ?_
        rintro e w5 ⟨rfl, hS5, hE5⟩
        have HE5 := hid (HE.out.trans hE5)
        rw [← hbe.out] at hS5
        have c4 := hS5.c4
        have f4 := hS5.frozen 4
        dsimp only at c4
        have HS6 := hid (hS5.setR (r + 1))
        dsimp only at HS6
        have HE6 := hid (HE5.out.setCell 4 (.int .i64 (r + 1)))
        clear hS5 hE5 HS HE HE5
        have hnn : (n : Int) ≤ O0.size := by omega
        go_wp2
        go_ret2
        exact ⟨by rw [← hby.out]; rfl, HS6.out, HE6.out⟩
  · have e1 : readG g (bts x) = stirG g (bts x) := by unfold readG; rw [if_neg (empty_bts h0)]
    have hneb := not_empty h0
    go_wp2_with fail
    refine (rstir_any g r x Y _ hg hB hS (by omega)).mono ?_
    rintro e w1 ⟨rfl, hS1, hE1⟩
    rw [← e1] at hS1
    have HS1 := hid hS1
    have HE1 := hid hE1
    clear hS e1 hS1 hE1
    generalize readG g (bts x) = g1 at *
    go_wp2_with fail
    go_loopw [8] (fun v wr => ∃ k : Nat, k ≤ blk n ∧ v = .string (toS (outG g1 k)) ∧ RsAt wr Y ⟨1, toS (stepN g1 k).k, toS (stepN g1 k).v, ⟨#[]⟩, r⟩ ∧ Ex Y w wr) (fun v _ => n + 100 - strLen v)
    case atStart => exact ⟨0, by omega, rfl, HS1.out, HE1.out⟩
    case round =>
      clear HS1 HE1
      obtain ⟨k, hk, rfl, hS, hE⟩ := hrel
      have hol := outG_len hg1 k
      have hbn : blk n = (n + 31) / 32 := rfl
      have hos : (toS (outG g1 k)).size = 32 * k := by rw [toS_size, hol]
      have gok := stepN_ok hg1 k
      have gB := stepN_B hB1 k
      have HS := hid hS
      have HE := hid hE
      clear hS hE
      by_cases hlt : 32 * k < n
      · have hlt' : ((32 * k : Nat) : Int) < n := by omega
        have hsn : Hd (stepN g1 (k + 1) = stepG (stepN g1 k)) := hid (by simp only [stepN])
        have hou := hid (outG_succ g1 k)
        have hsl2 : Hd (strLen (.string (toS (outG g1 (k + 1)))) = 32 * (k + 1)) := hid (by show (toS (outG g1 (k + 1))).size = _; rw [toS_size, outG_len hg1])
        have hsl1 : Hd (strLen (.string (toS (outG g1 k))) = 32 * k) := hid hos
        have hcat : Hd (toS (outG g1 k) ++ toS (stepN g1 (k + 1)).v = toS (outG g1 (k + 1))) := hid (by rw [toS_append, hou.out])
        have he : Hd ((stepN g1 (k + 1)).v = macI (stepN g1 k).k (stepN g1 k).v) := hid (by rw [hsn.out, stepG_v])
        have hek : Hd ((stepN g1 (k + 1)).k = (stepN g1 k).k) := hid (by rw [hsn.out, stepG_k])
        have hkb := hid (bts_toS _ gB.kb)
        have hvb := hid (bts_toS _ gB.vb)
        have hks : (toS (stepN g1 k).k).size = 32 := by rw [toS_size, gok.kl]
        have hvs : (toS (stepN g1 k).v).size = 32 := by rw [toS_size, gok.vl]
        generalize hO0 : toS (outG g1 k) = O0 at *
        generalize hO1 : toS (outG g1 (k + 1)) = O1 at *
        have HO1 := hid hO1
        clear hO0 hO1 hou
        generalize (stepN g1 k).k = K0 at *
        generalize (stepN g1 k).v = V0 at *
        go_wp2_with fail
        refine wp_region_E (S := fun w' => w'.cell? ⟨Y, 1, none⟩ = some (.string (toS K0)) ∧ w'.cell? ⟨Y, 2, none⟩ = some (.string (toS V0))) 12 (by kernel_rfl) ⟨HS.out.c1, HS.out.c2⟩ (fun hSw => ?_)
        refine wpAnyE_take (i := 0) (v := ?_) rfl (by decide +kernel) (by decide) (by decide +kernel) (by decide +kernel) (by decide +kernel) (fun _ _ _ h => h) (Or.inl ⟨by rfl, ?_⟩) hSw ?_
        rotate_left
        · intro w hw; go_simp; try with_reducible rfl
        simp only [Act.put, List.getElem_toArray, List.getElem_cons_zero, List.getElem_cons_succ, List.setIfInBounds_toArray, List.set_cons_zero, List.set_cons_succ]
        refine wpAnyE_take (i := 1) (v := ?_) rfl (by decide +kernel) (by decide) (by decide +kernel) (by decide +kernel) (by decide +kernel) (fun _ _ _ h => h) (Or.inl ⟨by rfl, ?_⟩) hSw ?_
        rotate_left
        · intro w hw; go_simp; try with_reducible rfl
        simp only [Act.put, List.getElem_toArray, List.getElem_cons_zero, List.getElem_cons_succ, List.setIfInBounds_toArray, List.set_cons_zero, List.set_cons_succ]
        refine wpAnyE_take (i := 2) (v := ?_) rfl (by decide +kernel) (by decide) (by decide +kernel) (by decide +kernel) (by decide +kernel) (fun _ _ _ h => h) (Or.inl ⟨by rfl, ?_⟩) hSw ?_
        rotate_left
        · intro w hw; go_simp; try with_reducible rfl
        simp only [Act.put, List.getElem_toArray, List.getElem_cons_zero, List.getElem_cons_succ, List.setIfInBounds_toArray, List.set_cons_zero, List.set_cons_succ]
        refine wpAnyE_take (i := 3) (v := ?_) rfl (by decide +kernel) (by decide) (by decide +kernel) (by decide +kernel) (by decide +kernel) (fun _ _ _ h => h) (Or.inl ⟨by rfl, ?_⟩) hSw ?_
        rotate_left
        · intro w hw; go_simp; try with_reducible rfl
        simp only [Act.put, List.getElem_toArray, List.getElem_cons_zero, List.getElem_cons_succ, List.setIfInBounds_toArray, List.set_cons_zero, List.set_cons_succ]
        refine wpAnyE_take (i := 4) (v := ?_) rfl (by decide +kernel) (by decide) (by decide +kernel) (by decide +kernel) (by decide +kernel) (fun _ _ _ h => h) (Or.inl ⟨by rfl, ?_⟩) hSw ?_
        rotate_left
        · intro w hw; have hcell := hw.1; clear hw; go_simp; try with_reducible rfl
        simp only [Act.put, List.getElem_toArray, List.getElem_cons_zero, List.getElem_cons_succ, List.setIfInBounds_toArray, List.set_cons_zero, List.set_cons_succ]
        refine wpAnyE_take (i := 5) (v := ?_) rfl (by decide +kernel) (by decide) (by decide +kernel) (by decide +kernel) (by decide +kernel) (fun _ _ _ h => h) (Or.inl ⟨by rfl, ?_⟩) hSw ?_
        rotate_left
        · intro w hw; go_simp; try with_reducible rfl
        simp only [Act.put, List.getElem_toArray, List.getElem_cons_zero, List.getElem_cons_succ, List.setIfInBounds_toArray, List.set_cons_zero, List.set_cons_succ]
        refine wpAnyE_take (i := 6) (v := ?_) rfl (by decide +kernel) (by decide) (by decide +kernel) (by decide +kernel) (by decide +kernel) (fun _ _ _ h => h) (Or.inl ⟨by rfl, ?_⟩) hSw ?_
        rotate_left
        · intro w hw; go_simp; try with_reducible rfl
        simp only [Act.put, List.getElem_toArray, List.getElem_cons_zero, List.getElem_cons_succ, List.setIfInBounds_toArray, List.set_cons_zero, List.set_cons_succ]
        refine wpAnyE_take (i := 7) (v := ?_) rfl (by decide +kernel) (by decide) (by decide +kernel) (by decide +kernel) (by decide +kernel) (fun _ _ _ h => h) (Or.inl ⟨by rfl, ?_⟩) hSw ?_
        rotate_left
        · intro w hw; go_simp; try with_reducible rfl
        simp only [Act.put, List.getElem_toArray, List.getElem_cons_zero, List.getElem_cons_succ, List.setIfInBounds_toArray, List.set_cons_zero, List.set_cons_succ]
        refine wpAnyE_take (i := 8) (v := ?_) rfl (by decide +kernel) (by decide) (by decide +kernel) (by decide +kernel) (by decide +kernel) (fun _ _ _ h => h) (Or.inl ⟨by rfl, ?_⟩) hSw ?_
        rotate_left
        · intro w hw; have hcell := hw.2; clear hw; go_simp; try with_reducible rfl
        simp only [Act.put, List.getElem_toArray, List.getElem_cons_zero, List.getElem_cons_succ, List.setIfInBounds_toArray, List.set_cons_zero, List.set_cons_succ]
        refine wpAnyE_one (i := 9) (by kernel_rfl) rfl (fun K hK => ?_)
        go_simp
        refine (rkeyed_any (toS K0) (toS V0) _ (by omega) (by omega)).mono ?_
        rintro e wD ⟨rfl, hBd⟩
        rw [hkb.out, hvb.out, ← he.out]
        have HSd := hid ((show RsAt wr.drew Y _ from HS.out).below hBd)
        have HEd := hid (HE.out.drew.trans (Ex.of_below (B := Y) hBd))
        refine hK.out _ _ (fun _ => ⟨HSd.out.c1, HSd.out.c2⟩) ?_
        replace hSw : wD.cell? ⟨Y, 1, none⟩ = some (.string (toS K0)) ∧ wD.cell? ⟨Y, 2, none⟩ = some (.string (toS V0)) := ⟨HSd.out.c1, HSd.out.c2⟩
        clear hK K HS HE hBd
        refine wpAnyE_one (i := 10) (by kernel_rfl) rfl (fun K hK => ?_)
        go_simp
        refine hK.out _ _ (fun _ => hSw) ?_
        clear hK K
        refine wpAnyE_one (i := 11) (by kernel_rfl) rfl (fun K hK => ?_)
        go_simp
        refine hK.out _ _ (fun _ => hSw) ?_
        clear hK K
        have f2 := HSd.out.frozen 2
        have cc2 := hSw.2
        refine wpAnyE_one (i := 12) (by kernel_rfl) rfl (fun K hK => ?_)
        go_simp
        have hvl1 : (toS (stepN g1 (k + 1)).v).size = 32 := by rw [toS_size, stepN_vl hg1]
        have hpr : Hd (⟨1, toS K0, toS (stepN g1 (k + 1)).v, ⟨#[]⟩, r⟩ = (⟨1, toS (stepN g1 (k + 1)).k, toS (stepN g1 (k + 1)).v, ⟨#[]⟩, r⟩ : RS)) := hid (by rw [hek.out])
        have HSe := hid (HSd.out.setV (toS (stepN g1 (k + 1)).v))
        have HEe := hid (HEd.out.setCell 2 (.string (toS (stepN g1 (k + 1)).v)))
        dsimp only at HSe
        generalize (wD.setCell ⟨Y, 2, none⟩ (.string (toS (stepN g1 (k + 1)).v))) = wE at *
        refine hK.out _ _ (fun h => absurd rfl h) ?_
        clear hK K hSw cc2 f2 HSd HEd he hek
        refine wpAnyE_done (by kernel_rfl) ?_ _
        have cc := HSe.out.c2
        dsimp only at cc
        have hnb : ¬ 9223372036854775807 < 32 * k + 32 := by omega
        have hHS : Hd (RsAt wE Y ⟨1, toS (stepN g1 (k + 1)).k, toS (stepN g1 (k + 1)).v, ⟨#[]⟩, r⟩) := hid (by rw [← hpr.out]; exact HSe.out)
        clear hpr HSe
        generalize hV1 : toS (stepN g1 (k + 1)).v = V1 at *
        have HV1 := hid hV1
        clear hV1
        go_wp2
        rw [hcat.out]
        refine ⟨⟨k + 1, by omega, by rw [HO1.out], by rw [HV1.out]; exact hHS.out, HEe.out⟩, ?_⟩
        rw [hsl1.out, hsl2.out]; omega
      · have hkb : k = blk n := by omega
        have hnl : ¬ ((32 * k : Nat) : Int) < n := by omega
        have hby : Hd ((toS (outG g1 k)).extract 0 n = toS (bytesM g n (bts x))) := hid (by rw [toS_take, hkb, ← HR.out])
        have hbe : Hd (behindM g n (bts x) = stirG (stepN g1 k) (bts x)) := hid (by rw [HB.out, hkb])
        generalize toS (outG g1 k) = O0 at *
        generalize stepN g1 k = gk at *
        go_wp2_with fail
        refine (rstir_any gk r x Y _ gok gB HS.out (by omega)).mono ?_
        rintro e w5 ⟨rfl, hS5, hE5⟩
        have HE5 := hid (HE.out.trans hE5)
        rw [← hbe.out] at hS5
        have c4 := hS5.c4
        have f4 := hS5.frozen 4
        dsimp only at c4
        have HS6 := hid (hS5.setR (r + 1))
        dsimp only at HS6
        have HE6 := hid (HE5.out.setCell 4 (.int .i64 (r + 1)))
        clear hS5 hE5 HS HE HE5
        have hnn : (n : Int) ≤ O0.size := by omega
        go_wp2
        go_ret2
        exact ⟨by rw [← hby.out]; rfl, HS6.out, HE6.out⟩

end Go.Proofs.YtbifmhbkmnofiaaGreat
