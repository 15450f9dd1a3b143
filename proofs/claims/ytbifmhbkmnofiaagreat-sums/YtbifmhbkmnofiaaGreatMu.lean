import Derived.Test.YtbifmhbkmnofiaaGreatMt
namespace Go.Proofs.YtbifmhbkmnofiaaGreat
open Go.RowKit
set_option linter.unusedVariables false
set_option linter.unusedSimpArgs false
theorem add_one (V : List Int) : addI V [1] = addI V (be8 1) := by
  apply addI_congr
  decide +kernel
theorem be8_btI (r : Int) : btI r 8 = be8 r := by
  unfold be8 btI
  simp only [lenBytes, lenB]
  rfl
theorem btI_one : btI 1 1 = [1] := by decide +kernel
theorem bts_m1 (m : Int) (v : List Int) (hm : 0 ≤ m ∧ m < 256) (hv : allB v) : bts (toS [m] ++ toS v) = m :: v := by
  rw [bts_append, bts_toS v hv, bts_toS [m] (by intro x hx; simp at hx; subst hx; exact hm)]; rfl
theorem bts_m2 (m : Int) (v : List Int) (d : ByteArray) (hm : 0 ≤ m ∧ m < 256) (hv : allB v) : bts (toS [m] ++ toS v ++ d) = m :: (v ++ bts d) := by
  rw [bts_append, bts_m1 m v hm hv]; rfl
theorem cntN_succ (V : List Int) (k : Nat) : cntN V (k + 1) = addI (cntN V k) (be8 1) := rfl
def outS (V : List Int) (k : Nat) : List Int := rows32 (sumF V) k
theorem outS_succ (V : List Int) (k : Nat) : outS V (k + 1) = outS V k ++ shaI (cntN V k) := rfl
theorem outS_len (V : List Int) (k : Nat) : (outS V k).length = 32 * k := rows32_len _ (sumF_len V) k

set_option maxRecDepth 20000 in
set_option maxHeartbeats 2000000 in
theorem rread_s0 (g : SG) (r : Int) (n : Nat) (x : ByteArray) (Y : Nat) (w : World) (hg : g.ok) (hS : RsAt w Y ⟨2, ⟨#[]⟩, toS g.v, toS g.c, r⟩) (hx : x = ⟨#[]⟩) (hn : n ≤ 200) (hr0 : 0 ≤ r) (hr : r ≤ 8) :
    Calls Tryz.prog 34 #[.pointer (some ⟨Y, 0, none⟩), .int .i64 n, .string x] w fun en w' => en = .returned (.tuple #[.string (toS (bytesS g n (bts x))), .int .i64 0]) ∧ RsAt w' Y ⟨2, ⟨#[]⟩, toS (behindS g (bts x) r).v, toS (behindS g (bts x) r).c, r + 1⟩ ∧ Ex Y w w' := by
  have c4 := hS.c4
  have c0 := hS.c0
  have c2 := hS.c2
  dsimp only at c4 c0 c2
  have hn' : (n : Int) ≤ 200 := by omega
  have e1 : extraS g (bts x) = g := by unfold extraS; rw [if_pos (show bts x = [] by rw [hx]; rfl)]
  have g1ok : (extraS g (bts x)).ok := extraS_ok hg _
  have HR := hid (show bytesS g n (bts x) = (outS (extraS g (bts x)).v (blk n)).take n from rfl)
  have HBE := hid (behindS_eq g (bts x) r)
  have HS1 : Hd (RsAt w Y ⟨2, ⟨#[]⟩, toS (extraS g (bts x)).v, toS (extraS g (bts x)).c, r⟩) := hid (by rw [e1]; exact hS)
  have HE1 := hid (Ex.refl Y w)
  rw [← e1] at c2
  clear hS e1
  generalize extraS g (bts x) = g1 at *
  subst hx
  go_enter Tryz.func34, Tryz.ntmps34
  go_wp2_with fail
  have vl := g1ok.vl
  have vb := g1ok.vb
  go_loopw [8, 9] (fun v cv wr => ∃ k : Nat, k ≤ blk n ∧ v = .string (toS (outS g1.v k)) ∧ cv = .string (toS (cntN g1.v k)) ∧ RsAt wr Y ⟨2, ⟨#[]⟩, toS g1.v, toS g1.c, r⟩ ∧ Ex Y w wr) (fun v _ _ => n + 100 - strLen v)
  case atStart => exact ⟨0, by omega, rfl, rfl, HS1.out, HE1.out⟩
  case round =>
    clear HS1 HE1
    obtain ⟨k, hk, rfl, rfl, hS, hE⟩ := hrel
    have hol := outS_len g1.v k
    have hbn : blk n = (n + 31) / 32 := rfl
    have hos : (toS (outS g1.v k)).size = 32 * k := by rw [toS_size, hol]
    have hcl := cntN_len vl k
    have hcb := cntN_B vb k
    have HS := hid hS
    have HE := hid hE
    clear hS hE
    by_cases hlt : 32 * k < n
    · have hlt' : ((32 * k : Nat) : Int) < n := by omega
      have hcn := hid ((add_one (cntN g1.v k)).trans (cntN_succ g1.v k).symm)
      have hsl2 : Hd (strLen (.string (toS (outS g1.v (k + 1)))) = 32 * (k + 1)) := hid (by show (toS (outS g1.v (k + 1))).size = _; rw [toS_size, outS_len])
      have hsl1 : Hd (strLen (.string (toS (outS g1.v k))) = 32 * k) := hid hos
      have hcat : Hd (toS (outS g1.v k) ++ toS (shaI (cntN g1.v k)) = toS (outS g1.v (k + 1))) := hid (by rw [toS_append, outS_succ])
      have hcv := hid (bts_toS _ hcb)
      have hcz : (toS (cntN g1.v k)).size = 55 := by rw [toS_size, hcl]
      generalize hO0 : toS (outS g1.v k) = O0 at *
      generalize hO1 : toS (outS g1.v (k + 1)) = O1 at *
      have HO1 := hid hO1
      clear hO0 hO1
      generalize hC1 : cntN g1.v (k + 1) = C1 at *
      have HC1 := hid hC1
      clear hC1
      generalize cntN g1.v k = C0 at *
      go_wp2_with fail
      refine (hash_any (toS C0) _ (by omega)).mono ?_
      rintro e w3 ⟨rfl, hB3⟩
      rw [hcv.out]
      have HS3 := hid (HS.out.below hB3)
      have HE3 := hid (HE.out.trans (Ex.of_below (B := Y) hB3))
      have hsz := shaI_len C0
      have hsz2 : (toS (shaI C0)).size = 32 := by rw [toS_size, hsz]
      have hnb : ¬ 9223372036854775807 < 32 * k + 32 := by omega
      clear HS HE hB3 hsz
      generalize toS (shaI C0) = hh at *
      go_wp2_with fail
      rw [hcat.out]
      refine (bytes_any 1 1 _ (by omega) (by omega) (by omega)).mono ?_
      rintro e w4 ⟨rfl, hB4⟩
      rw [btI_one]
      have HS4 := hid (HS3.out.below hB4)
      have HE4 := hid (HE3.out.trans (Ex.of_below (B := Y) hB4))
      clear HS3 HE3 hB4
      go_wp2_with fail
      refine (radded_any C0 [1] _ hcl hcb (by intro y hy; simp at hy; subst hy; omega) (by simp)).mono ?_
      rintro e w5 ⟨rfl, hB5⟩
      rw [hcn.out]
      have HS5 := hid (HS4.out.below hB5)
      have HE5 := hid (HE4.out.trans (Ex.of_below (B := Y) hB5))
      clear HS4 HE4 hB5
      go_wp2
      refine ⟨⟨k + 1, by omega, by rw [HO1.out], by rw [HC1.out], HS5.out, HE5.out⟩, ?_⟩
      rw [hsl1.out, hsl2.out]; omega
    · have hkb : k = blk n := by omega
      have hnl : ¬ ((32 * k : Nat) : Int) < n := by omega
      have hby : Hd ((toS (outS g1.v k)).extract 0 n = toS (bytesS g n (bts ⟨#[]⟩))) := hid (by rw [toS_take, hkb, ← HR.out])
      have hm1 := hid (bts_m1 3 g1.v (by omega) vb)
      have hvs : (toS g1.v).size = 55 := by rw [toS_size, vl]
      have hmk : Hd (shaI (3 :: g1.v) = markI 3 g1.v []) := hid (by unfold markI; rw [List.append_nil])
      generalize toS (outS g1.v k) = O0 at *
      generalize toS (cntN g1.v k) = CV at *
      go_wp2_with fail
      refine wp_region_held_drew (S := fun w' => w'.cell? ⟨Y, 2, none⟩ = some (.string (toS g1.v))) (by kernel_rfl) HS.out.c2 (fun hSw => ?_)
      refine wpAnyH_take (i := 2) (v := ?_) rfl (by decide +kernel) (by decide +kernel) (by decide +kernel) (fun _ _ _ h => h) (Or.inl ⟨by rfl, ?_⟩) hSw ?_
      rotate_left
      · intro w hw; go_simp; try with_reducible rfl
      simp only [Act.put, List.getElem_toArray, List.getElem_cons_zero, List.getElem_cons_succ, List.setIfInBounds_toArray, List.set_cons_zero, List.set_cons_succ]
      refine wpAnyH_take (i := 3) (v := ?_) rfl (by decide +kernel) (by decide +kernel) (by decide +kernel) (fun _ _ _ h => h) (Or.inl ⟨by rfl, ?_⟩) hSw ?_
      rotate_left
      · intro w hw; go_simp; try with_reducible rfl
      simp only [Act.put, List.getElem_toArray, List.getElem_cons_zero, List.getElem_cons_succ, List.setIfInBounds_toArray, List.set_cons_zero, List.set_cons_succ]
      refine wpAnyH_take (i := 4) (v := ?_) rfl (by decide +kernel) (by decide +kernel) (by decide +kernel) (fun _ _ _ h => h) (Or.inl ⟨by rfl, ?_⟩) hSw ?_
      rotate_left
      · intro w hw; go_simp; try with_reducible rfl
      simp only [Act.put, List.getElem_toArray, List.getElem_cons_zero, List.getElem_cons_succ, List.setIfInBounds_toArray, List.set_cons_zero, List.set_cons_succ]
      refine wpAnyH_take (i := 5) (v := ?_) rfl (by decide +kernel) (by decide +kernel) (by decide +kernel) (fun _ _ _ h => h) (Or.inl ⟨by rfl, ?_⟩) hSw ?_
      rotate_left
      · intro w hw; have hcell := hw; clear hw; go_simp; try with_reducible rfl
      simp only [Act.put, List.getElem_toArray, List.getElem_cons_zero, List.getElem_cons_succ, List.setIfInBounds_toArray, List.set_cons_zero, List.set_cons_succ]
      refine wpAnyH_ready (rs := [0]) (by kernel_rfl) (by simp) ?_
      refine AllReadyH.cons rfl (fun K hK => ?_) AllReadyH.nil
      go_simp
      have hBa : Below wr.heap.size wr (wr.alloc (.cells #[Value.int .u8 3] 5)) := (Below.refl _ _).alloc (Nat.le_refl _) _
      have hob := hid (one_byt wr 3)
      have HSa := hid (HS.out.below hBa)
      have HEa := hid (HE.out.trans (Ex.of_below (B := Y) hBa))
      generalize (wr.alloc (.cells #[Value.int .u8 3] 5)) = wa at *
      have hSa : wa.drew.cell? ⟨Y, 2, none⟩ = some (.string (toS g1.v)) := HSa.out.c2
      refine hK.out _ _ hSa (fun hSw => ?_)
      clear hK K HS HE hBa hSa
      refine wpAnyH_ready (rs := [1]) (by kernel_rfl) (by simp) ?_
      refine AllReadyH.cons rfl (fun K hK => ?_) AllReadyH.nil
      rw [if_pos (by rfl)]
      refine wp_str _ rfl _ [3] rfl (show Byt wa.drew _ _ from hob.out) ?_
      refine hK.out _ _ hSw (fun hSw => ?_)
      clear hK K hob
      have h3s := toS_one 3
      have hcz : (toS [3] ++ toS g1.v).size ≤ 1000 := by rw [ByteArray.size_append]; omega
      generalize toS [3] = o3 at *
      refine wpAnyH_take (i := 6) (v := ?_) rfl (by decide +kernel) (by decide +kernel) (by decide +kernel) (fun _ _ _ h => h) (Or.inl ⟨by rfl, ?_⟩) hSw ?_
      rotate_left
      · intro w hw; go_simp; try with_reducible rfl
      simp only [Act.put, List.getElem_toArray, List.getElem_cons_zero, List.getElem_cons_succ, List.setIfInBounds_toArray, List.set_cons_zero, List.set_cons_succ]
      refine wpAnyH_ready (rs := [7]) (by kernel_rfl) (by simp) ?_
      refine AllReadyH.cons rfl (fun K hK => ?_) AllReadyH.nil
      go_simp
      refine (hash_any (o3 ++ toS g1.v) _ (by omega)).mono ?_
      rintro e wb ⟨rfl, hBb⟩
      rw [hm1.out, hmk.out]
      have HSb := hid ((show RsAt wa.drew Y _ from HSa.out).below hBb)
      have HEb := hid (HEa.out.drew.trans (Ex.of_below (B := Y) hBb))
      have hSb : wb.cell? ⟨Y, 2, none⟩ = some (.string (toS g1.v)) := HSb.out.c2
      refine hK.out _ _ hSb (fun hSw => ?_)
      clear hK K hBb HSa HEa hSb
      refine wpAnyH_take (i := 8) (v := ?_) rfl (by decide +kernel) (by decide +kernel) (by decide +kernel) (fun _ _ _ h => h) (Or.inl ⟨by rfl, ?_⟩) hSw ?_
      rotate_left
      · intro w hw; go_simp; try with_reducible rfl
      simp only [Act.put, List.getElem_toArray, List.getElem_cons_zero, List.getElem_cons_succ, List.setIfInBounds_toArray, List.set_cons_zero, List.set_cons_succ]
      refine wpAnyH_done (by kernel_rfl) ?_ _
      have hml := markI_len 3 g1.v []
      have hmb := markI_B 3 g1.v []
      generalize markI 3 g1.v [] = mk at *
      clear hm1 hmk
      go_wp2_with fail
      refine wp_region_E (S := fun w' => w'.cell? ⟨Y, 2, none⟩ = some (.string (toS g1.v)) ∧ w'.cell? ⟨Y, 3, none⟩ = some (.string (toS g1.c)) ∧ w'.cell? ⟨Y, 4, none⟩ = some (.int .i64 r)) 20 (by kernel_rfl) ⟨HSb.out.c2, HSb.out.c3, HSb.out.c4⟩ (fun hSw => ?_)
      refine wpAnyE_take (i := 0) (v := ?_) rfl (by decide +kernel) (by decide) (by decide +kernel) (by decide +kernel) (by decide +kernel) (fun _ _ _ h => h) (Or.inl ⟨by rfl, ?_⟩) hSw ?_
      rotate_left
      · intro w hw; go_simp; try with_reducible rfl
      simp only [Act.put, List.getElem_toArray, List.getElem_cons_zero, List.getElem_cons_succ, List.setIfInBounds_toArray, List.set_cons_zero, List.set_cons_succ]
      refine wpAnyE_take (i := 1) (v := ?_) rfl (by decide +kernel) (by decide) (by decide +kernel) (by decide +kernel) (by decide +kernel) (fun _ _ _ h => h) (Or.inl ⟨by rfl, ?_⟩) hSw ?_
      rotate_left
      · intro w hw; go_simp; try with_reducible rfl
      simp only [Act.put, List.getElem_toArray, List.getElem_cons_zero, List.getElem_cons_succ, List.setIfInBounds_toArray, List.set_cons_zero, List.set_cons_succ]
      refine wpAnyE_take (i := 2) (v := ?_) rfl (by decide +kernel) (by decide) (by decide +kernel) (by decide +kernel) (by decide +kernel) (fun _ _ _ h => h) (Or.inl ⟨by rfl, ?_⟩) hSw ?_
      rotate_left
      · intro w hw; go_simp; try with_reducible rfl
      simp only [Act.put, List.getElem_toArray, List.getElem_cons_zero, List.getElem_cons_succ, List.setIfInBounds_toArray, List.set_cons_zero, List.set_cons_succ]
      refine wpAnyE_take (i := 3) (v := ?_) rfl (by decide +kernel) (by decide) (by decide +kernel) (by decide +kernel) (by decide +kernel) (fun _ _ _ h => h) (Or.inl ⟨by rfl, ?_⟩) hSw ?_
      rotate_left
      · intro w hw; go_simp; try with_reducible rfl
      simp only [Act.put, List.getElem_toArray, List.getElem_cons_zero, List.getElem_cons_succ, List.setIfInBounds_toArray, List.set_cons_zero, List.set_cons_succ]
      refine wpAnyE_take (i := 4) (v := ?_) rfl (by decide +kernel) (by decide) (by decide +kernel) (by decide +kernel) (by decide +kernel) (fun _ _ _ h => h) (Or.inl ⟨by rfl, ?_⟩) hSw ?_
      rotate_left
      · intro w hw; have hcell := hw.1; clear hw; go_simp; try with_reducible rfl
      simp only [Act.put, List.getElem_toArray, List.getElem_cons_zero, List.getElem_cons_succ, List.setIfInBounds_toArray, List.set_cons_zero, List.set_cons_succ]
      refine wpAnyE_take (i := 5) (v := ?_) rfl (by decide +kernel) (by decide) (by decide +kernel) (by decide +kernel) (by decide +kernel) (fun _ _ _ h => h) (Or.inl ⟨by rfl, ?_⟩) hSw ?_
      rotate_left
      · intro w hw; go_simp; try with_reducible rfl
      simp only [Act.put, List.getElem_toArray, List.getElem_cons_zero, List.getElem_cons_succ, List.setIfInBounds_toArray, List.set_cons_zero, List.set_cons_succ]
      refine wpAnyE_take (i := 7) (v := ?_) rfl (by decide +kernel) (by decide) (by decide +kernel) (by decide +kernel) (by decide +kernel) (fun _ _ _ h => h) (Or.inl ⟨by rfl, ?_⟩) hSw ?_
      rotate_left
      · intro w hw; go_simp; try with_reducible rfl
      simp only [Act.put, List.getElem_toArray, List.getElem_cons_zero, List.getElem_cons_succ, List.setIfInBounds_toArray, List.set_cons_zero, List.set_cons_succ]
      refine wpAnyE_take (i := 8) (v := ?_) rfl (by decide +kernel) (by decide) (by decide +kernel) (by decide +kernel) (by decide +kernel) (fun _ _ _ h => h) (Or.inl ⟨by rfl, ?_⟩) hSw ?_
      rotate_left
      · intro w hw; go_simp; try with_reducible rfl
      simp only [Act.put, List.getElem_toArray, List.getElem_cons_zero, List.getElem_cons_succ, List.setIfInBounds_toArray, List.set_cons_zero, List.set_cons_succ]
      refine wpAnyE_take (i := 9) (v := ?_) rfl (by decide +kernel) (by decide) (by decide +kernel) (by decide +kernel) (by decide +kernel) (fun _ _ _ h => h) (Or.inl ⟨by rfl, ?_⟩) hSw ?_
      rotate_left
      · intro w hw; go_simp; try with_reducible rfl
      simp only [Act.put, List.getElem_toArray, List.getElem_cons_zero, List.getElem_cons_succ, List.setIfInBounds_toArray, List.set_cons_zero, List.set_cons_succ]
      refine wpAnyE_take (i := 10) (v := ?_) rfl (by decide +kernel) (by decide) (by decide +kernel) (by decide +kernel) (by decide +kernel) (fun _ _ _ h => h) (Or.inl ⟨by rfl, ?_⟩) hSw ?_
      rotate_left
      · intro w hw; have hcell := hw.2.1; clear hw; go_simp; try with_reducible rfl
      simp only [Act.put, List.getElem_toArray, List.getElem_cons_zero, List.getElem_cons_succ, List.setIfInBounds_toArray, List.set_cons_zero, List.set_cons_succ]
      refine wpAnyE_take (i := 12) (v := ?_) rfl (by decide +kernel) (by decide) (by decide +kernel) (by decide +kernel) (by decide +kernel) (fun _ _ _ h => h) (Or.inl ⟨by rfl, ?_⟩) hSw ?_
      rotate_left
      · intro w hw; go_simp; try with_reducible rfl
      simp only [Act.put, List.getElem_toArray, List.getElem_cons_zero, List.getElem_cons_succ, List.setIfInBounds_toArray, List.set_cons_zero, List.set_cons_succ]
      refine wpAnyE_take (i := 13) (v := ?_) rfl (by decide +kernel) (by decide) (by decide +kernel) (by decide +kernel) (by decide +kernel) (fun _ _ _ h => h) (Or.inl ⟨by rfl, ?_⟩) hSw ?_
      rotate_left
      · intro w hw; go_simp; try with_reducible rfl
      simp only [Act.put, List.getElem_toArray, List.getElem_cons_zero, List.getElem_cons_succ, List.setIfInBounds_toArray, List.set_cons_zero, List.set_cons_succ]
      refine wpAnyE_take (i := 14) (v := ?_) rfl (by decide +kernel) (by decide) (by decide +kernel) (by decide +kernel) (by decide +kernel) (fun _ _ _ h => h) (Or.inl ⟨by rfl, ?_⟩) hSw ?_
      rotate_left
      · intro w hw; go_simp; try with_reducible rfl
      simp only [Act.put, List.getElem_toArray, List.getElem_cons_zero, List.getElem_cons_succ, List.setIfInBounds_toArray, List.set_cons_zero, List.set_cons_succ]
      refine wpAnyE_take (i := 15) (v := ?_) rfl (by decide +kernel) (by decide) (by decide +kernel) (by decide +kernel) (by decide +kernel) (fun _ _ _ h => h) (Or.inl ⟨by rfl, ?_⟩) hSw ?_
      rotate_left
      · intro w hw; have hcell := hw.2.2; clear hw; go_simp; try with_reducible rfl
      simp only [Act.put, List.getElem_toArray, List.getElem_cons_zero, List.getElem_cons_succ, List.setIfInBounds_toArray, List.set_cons_zero, List.set_cons_succ]
      refine wpAnyE_one (i := 6) (by kernel_rfl) rfl (fun K hK => ?_)
      go_simp
      refine (radded_any g1.v mk _ vl vb hmb (by omega)).mono ?_
      rintro e wc ⟨rfl, hBc⟩
      have HSc := hid ((show RsAt wb.drew Y _ from HSb.out).below hBc)
      have HEc := hid (HEb.out.drew.trans (Ex.of_below (B := Y) hBc))
      replace hSw : wc.cell? ⟨Y, 2, none⟩ = some (.string (toS g1.v)) ∧ wc.cell? ⟨Y, 3, none⟩ = some (.string (toS g1.c)) ∧ wc.cell? ⟨Y, 4, none⟩ = some (.int .i64 r) := ⟨HSc.out.c2, HSc.out.c3, HSc.out.c4⟩
      refine hK.out _ _ (fun _ => hSw) ?_
      clear hK K hBc HSb HEb
      refine wpAnyE_one (i := 11) (by kernel_rfl) rfl (fun K hK => ?_)
      go_simp
      refine (radded_any (addI g1.v mk) g1.c _ (addI_len _ _) (addI_B _ _) g1ok.cb (by rw [g1ok.cl]; omega)).mono ?_
      rintro e wd ⟨rfl, hBd⟩
      have HSd := hid (HSc.out.below hBd)
      have HEd := hid (HEc.out.trans (Ex.of_below (B := Y) hBd))
      replace hSw : wd.cell? ⟨Y, 2, none⟩ = some (.string (toS g1.v)) ∧ wd.cell? ⟨Y, 3, none⟩ = some (.string (toS g1.c)) ∧ wd.cell? ⟨Y, 4, none⟩ = some (.int .i64 r) := ⟨HSd.out.c2, HSd.out.c3, HSd.out.c4⟩
      refine hK.out _ _ (fun _ => hSw) ?_
      clear hK K hBd HSc HEc
      refine wpAnyE_one (i := 16) (by kernel_rfl) rfl (fun K hK => ?_)
      go_simp
      refine (bytes_any r 8 _ hr0 (by omega) (by omega)).mono ?_
      rintro e we ⟨rfl, hBe⟩
      rw [be8_btI]
      have HSe := hid (HSd.out.below hBe)
      have HEe := hid (HEd.out.trans (Ex.of_below (B := Y) hBe))
      replace hSw : we.cell? ⟨Y, 2, none⟩ = some (.string (toS g1.v)) ∧ we.cell? ⟨Y, 3, none⟩ = some (.string (toS g1.c)) ∧ we.cell? ⟨Y, 4, none⟩ = some (.int .i64 r) := ⟨HSe.out.c2, HSe.out.c3, HSe.out.c4⟩
      refine hK.out _ _ (fun _ => hSw) ?_
      clear hK K hBe HSd HEd
      refine wpAnyE_one (i := 17) (by kernel_rfl) rfl (fun K hK => ?_)
      go_simp
      refine (radded_any (addI (addI g1.v mk) g1.c) (be8 r) _ (addI_len _ _) (addI_B _ _) (lenBytes_B r 8) (by unfold be8; rw [lenBytes_len]; omega)).mono ?_
      rintro e wf ⟨rfl, hBf⟩
      have HSf := hid (HSe.out.below hBf)
      have HEf := hid (HEe.out.trans (Ex.of_below (B := Y) hBf))
      replace hSw : wf.cell? ⟨Y, 2, none⟩ = some (.string (toS g1.v)) ∧ wf.cell? ⟨Y, 3, none⟩ = some (.string (toS g1.c)) ∧ wf.cell? ⟨Y, 4, none⟩ = some (.int .i64 r) := ⟨HSf.out.c2, HSf.out.c3, HSf.out.c4⟩
      refine hK.out _ _ (fun _ => hSw) ?_
      clear hK K hBf HSe HEe
      refine wpAnyE_one (i := 18) (by kernel_rfl) rfl (fun K hK => ?_)
      go_simp
      refine hK.out _ _ (fun _ => hSw) ?_
      clear hK K
      refine wpAnyE_one (i := 19) (by kernel_rfl) rfl (fun K hK => ?_)
      go_simp
      refine hK.out _ _ (fun _ => hSw) ?_
      clear hK K
      have f2 := HSf.out.frozen 2
      have cc2 := hSw.1
      refine wpAnyE_one (i := 20) (by kernel_rfl) rfl (fun K hK => ?_)
      go_simp
      generalize hfin : addI (addI (addI g1.v mk) g1.c) (be8 r) = VF at *
      have HFin := hid hfin
      clear hfin
      have HSg := hid (HSf.out.setV (toS VF))
      have HEg := hid (HEf.out.setCell 2 (.string (toS VF)))
      dsimp only at HSg
      generalize (wf.setCell ⟨Y, 2, none⟩ (.string (toS VF))) = wg at *
      refine hK.out _ _ (fun h => absurd rfl h) ?_
      clear hK K hSw cc2 f2 HSf HEf
      refine wpAnyE_done (by kernel_rfl) ?_ _
      have c4 := HSg.out.c4
      have f4 := HSg.out.frozen 4
      dsimp only at c4
      have HS6 := hid (HSg.out.setR (r + 1))
      dsimp only at HS6
      have HE6 := hid (HEg.out.setCell 4 (.int .i64 (r + 1)))
      have hnn : (n : Int) ≤ O0.size := by omega
      clear HSg HEg
      go_wp2
      go_ret2
      refine ⟨by rw [← hby.out]; rfl, ?_, HE6.out⟩
      have hbv : (behindS g (bts ⟨#[]⟩) r).v = VF := by rw [HBE.out]
      have hbc : (behindS g (bts ⟨#[]⟩) r).c = g1.c := by rw [HBE.out]
      rw [hbv, hbc]
      exact HS6.out

end Go.Proofs.YtbifmhbkmnofiaaGreat
