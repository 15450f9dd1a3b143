import Derived.Test.YtbifmhbkmnofiaaWa
namespace Go.Proofs.Ytbifmhbkmnofiaa
open Go.RowKit
set_option linter.unusedVariables false
set_option linter.unusedSimpArgs false
/-- samples, one behind the other: the state behind them, and the fault (true: a window's) with its place -/
def takeW (st wi sk : Int) : WS → List Int → Nat → WS × Option (Bool × Nat)
  | x, [], _ => (x, none)
  | x, b :: r, k => if st ≤ (runW x b).t then (runW x b, some (false, k)) else if sk ≤ (winW (runW x b) b wi).n then (winW (runW x b) b wi, some (true, k)) else takeW st wi sk (winW (runW x b) b wi) r (k + 1)
structure WS.ok (x : WS) (st wi sk : Int) : Prop where
  t0 : 0 ≤ x.t
  t1 : x.t < st
  n0 : 0 ≤ x.n
  n1 : x.n < sk
  c0 : 0 ≤ x.c
  c1 : x.c ≤ wi
theorem runW_t (x : WS) (b : Int) (h : 0 ≤ x.t) : 1 ≤ (runW x b).t ∧ (runW x b).t ≤ x.t + 1 := by
  unfold runW; split <;> dsimp only <;> omega
theorem runW_rest (x : WS) (b : Int) : (runW x b).f = x.f ∧ (runW x b).n = x.n ∧ (runW x b).c = x.c := by
  unfold runW; split <;> simp
theorem winW_bd (x : WS) (b wi : Int) (hn : 0 ≤ x.n) (hc : 0 ≤ x.c) (hc1 : x.c ≤ wi) (hwi : 2 ≤ wi) : (winW x b wi).t = x.t ∧ 0 ≤ (winW x b wi).n ∧ (winW x b wi).n ≤ x.n + 1 ∧ 0 ≤ (winW x b wi).c ∧ (winW x b wi).c ≤ wi := by
  by_cases hL : x.c = wi
  · rw [winW_new b hL]; dsimp only; omega
  · by_cases h0 : x.c = 0
    · rw [winW_first b hL h0]; dsimp only; omega
    · by_cases hb : b = x.f
      · rw [winW_same b hL h0 hb]; dsimp only; omega
      · rw [winW_else b hL h0 hb]; dsimp only; omega
theorem Byt.form2 {w : World} {v : Value} {xs : List Int} (h : Byt w v xs) : ∃ a cap, v = .slice a xs.length cap ∧ (0 < xs.length → ∃ db off, a = some ⟨db, off, none⟩ ∧ ∀ j, j < xs.length → w.cell? ⟨db, off + j, none⟩ = some (.int .u8 (xs[j]?.getD 0))) := by
  rcases h with ⟨rfl, a, cap, rfl⟩ | ⟨db, off, cap, rfl, hc⟩
  · exact ⟨a, cap, rfl, fun h => by simp at h⟩
  · exact ⟨_, cap, rfl, fun _ => ⟨db, off, rfl, hc⟩⟩
/-- what the call answers -/
def faultV : Option (Bool × Nat) → Value
  | none => .nilIface
  | some (false, k) => .iface 122 (.int .i64 k)
  | some (true, k) => .iface 124 (.int .i64 k)
set_option maxRecDepth 20000 in
set_option maxHeartbeats 1000000 in
theorem take_any (x : WS) (st wi sk : Int) (v : Value) (xs : List Int) (B o : Nat) (pre post : List Value) (w : World) (hS : WsAt w B pre post x) (ho : pre.length = o) (hv : Byt w v xs) (hvB : ∀ ad n c, v = .slice (some ad) n c → 0 < n → ad.block ≠ B) (hl : xs.length ≤ 1000) (hx : x.ok st wi sk) (hst : st ≤ 50) (hwi : 2 ≤ wi) (hwi2 : wi ≤ 50) (hsk : sk ≤ 50) :
    Calls Try.prog 47 #[.pointer (some ⟨B, o, none⟩), v, .agg #[.int .i64 st, .int .i64 wi, .int .i64 sk]] w fun e w' => e = .returned (faultV (takeW st wi sk x xs 0).2) ∧ WsAt w' B pre post (takeW st wi sk x xs 0).1 ∧ Ex B w w' := by
  have hBl := hS.lt
  have hb1 := al_new w (.cells #[.int .i64 st, .int .i64 wi, .int .i64 sk] 51)
  have hB1 : Below w.heap.size w (w.alloc (.cells #[.int .i64 st, .int .i64 wi, .int .i64 sk] 51)) := (Below.refl _ _).alloc (Nat.le_refl _) _
  have hS1 := hS.other (hB1.block B hBl)
  have hz1 := al_size w (.cells #[.int .i64 st, .int .i64 wi, .int .i64 sk] 51)
  obtain ⟨a, cap, rfl, hcell⟩ := hv.form2
  have Hc := hid hcell
  have HvB := hid hvB
  clear hS hv hcell hvB
  have HB1 := hid hB1
  clear hB1
  go_enter Try.func47, Try.ntmps47
  go_wp2
  generalize (w.alloc (.cells #[.int .i64 st, .int .i64 wi, .int .i64 sk] 51)) = w1 at *
  go_loopw [11] (fun i wr => ∃ (k : Nat) (y : WS), k ≤ xs.length ∧ i = .int .i64 k ∧ y.ok st wi sk ∧ takeW st wi sk x xs 0 = takeW st wi sk y (xs.drop k) k ∧ WsAt wr B pre post y ∧ wr.heap[w.heap.size]? = some (.cells #[.int .i64 st, .int .i64 wi, .int .i64 sk] 51 (0, 0)) ∧ Ex B w wr) (fun i _ => xs.length - (intOf i).toNat)
  case atStart => exact ⟨0, x, by omega, rfl, hx, rfl, hS1, hb1, Ex.of_below HB1.out⟩
  case round =>
    clear hS1 hb1 HB1
    obtain ⟨k, y, hk, rfl, hy, htk, hS, hlim, hE⟩ := hrel
    have cS := cell_of_row _ _ 0 _ _ _ hlim
    have cW := cell_of_row _ _ 1 _ _ _ hlim
    have cK := cell_of_row _ _ 2 _ _ _ hlim
    simp only [List.getElem?_toArray, List.getElem?_cons_zero, List.getElem?_cons_succ] at cS cW cK
    by_cases hlt : k < xs.length
    · have hlt' : (k : Int) < xs.length := by omega
      obtain ⟨db, doff, rfl, hcs⟩ := Hc.out (by omega)
      have c1 := hcs k hlt
      have hne := HvB.out _ _ _ rfl (by omega)
      have cx : wr.cell? ⟨db, doff + k, none⟩ = some (.int .u8 (xs[k]?.getD 0)) := by
        rw [← c1]
        have hl2 := World.block_lt_of_cell? w _ c1
        unfold World.cell?
        rw [hE.block _ hl2 hne]
      have hdr : xs.drop k = xs[k]?.getD 0 :: xs.drop (k + 1) := by
        rw [List.drop_eq_getElem_cons hlt, List.getElem?_eq_getElem hlt]; rfl
      rw [hdr] at htk
      generalize xs[k]?.getD 0 = b at *
      have htu : takeW st wi sk y (b :: xs.drop (k + 1)) k = if st ≤ (runW y b).t then (runW y b, some (false, k)) else if sk ≤ (winW (runW y b) b wi).n then (winW (runW y b) b wi, some (true, k)) else takeW st wi sk (winW (runW y b) b wi) (xs.drop (k + 1)) (k + 1) := rfl
      rw [htu] at htk
      have rt := runW_t y b hy.t0
      have rr := runW_rest y b
      have Htk := hid htk
      have Hlim := hid hlim
      have HS := hid hS
      have HE := hid hE
      have hy0 := hy.t0
      have hy1 := hy.t1
      have hyn0 := hy.n0
      have hyn1 := hy.n1
      have hyc0 := hy.c0
      have hyc1 := hy.c1
      clear htk htu hdr hlim hS hE hcs c1
      go_wp2_with fail
      refine wp_region_held_drew (S := fun w' => w'.cell? ⟨w.heap.size, 0, none⟩ = some (.int .i64 st)) (by kernel_rfl) cS (fun hSw => ?_)
      refine wpAnyH_take (i := 0) (v := ?_) rfl (by decide +kernel) (by decide +kernel) (by decide +kernel) (fun _ _ _ h => h) (Or.inl ⟨by rfl, ?_⟩) hSw ?_
      rotate_left
      · intro w hw; go_simp; try with_reducible rfl
      simp only [Act.put, List.getElem_toArray, List.getElem_cons_zero, List.getElem_cons_succ, List.setIfInBounds_toArray, List.set_cons_zero, List.set_cons_succ]
      refine wpAnyH_take (i := 1) (v := ?_) rfl (by decide +kernel) (by decide +kernel) (by decide +kernel) (fun _ _ _ h => h) (Or.inl ⟨by rfl, ?_⟩) hSw ?_
      rotate_left
      · intro w hw; go_simp; try with_reducible rfl
      simp only [Act.put, List.getElem_toArray, List.getElem_cons_zero, List.getElem_cons_succ, List.setIfInBounds_toArray, List.set_cons_zero, List.set_cons_succ]
      refine wpAnyH_take (i := 2) (v := ?_) rfl (by decide +kernel) (by decide +kernel) (by decide +kernel) (fun _ _ _ h => h) (Or.inl ⟨by rfl, ?_⟩) hSw ?_
      rotate_left
      · intro w hw; go_simp; try with_reducible rfl
      simp only [Act.put, List.getElem_toArray, List.getElem_cons_zero, List.getElem_cons_succ, List.setIfInBounds_toArray, List.set_cons_zero, List.set_cons_succ]
      refine wpAnyH_take (i := 3) (v := ?_) rfl (by decide +kernel) (by decide +kernel) (by decide +kernel) (fun _ _ _ h => h) (Or.inl ⟨by rfl, ?_⟩) hSw ?_
      rotate_left
      · intro w hw; go_simp; try with_reducible rfl
      simp only [Act.put, List.getElem_toArray, List.getElem_cons_zero, List.getElem_cons_succ, List.setIfInBounds_toArray, List.set_cons_zero, List.set_cons_succ]
      refine wpAnyH_take (i := 5) (v := ?_) rfl (by decide +kernel) (by decide +kernel) (by decide +kernel) (fun _ _ _ h => h) (Or.inl ⟨by rfl, ?_⟩) hSw ?_
      rotate_left
      · intro w hw; go_simp; try with_reducible rfl
      simp only [Act.put, List.getElem_toArray, List.getElem_cons_zero, List.getElem_cons_succ, List.setIfInBounds_toArray, List.set_cons_zero, List.set_cons_succ]
      refine wpAnyH_take (i := 6) (v := ?_) rfl (by decide +kernel) (by decide +kernel) (by decide +kernel) (fun _ _ _ h => h) (Or.inl ⟨by rfl, ?_⟩) hSw ?_
      rotate_left
      · intro w hw; have hcell := hw; clear hw; go_simp; try with_reducible rfl
      simp only [Act.put, List.getElem_toArray, List.getElem_cons_zero, List.getElem_cons_succ, List.setIfInBounds_toArray, List.set_cons_zero, List.set_cons_succ]
      refine wpAnyH_ready (rs := [4]) (by kernel_rfl) (by simp) ?_
      refine AllReadyH.cons rfl (fun K hK => ?_) AllReadyH.nil
      go_simp
      refine (rcount_any y b B o pre post wr.drew (show WsAt wr.drew B pre post y from HS.out) ho hy0 (by omega)).mono ?_
      rintro e w2 ⟨rfl, hS2, hE2⟩
      have hlw : w.heap.size < wr.heap.size := (Array.getElem?_eq_some_iff.1 Hlim.out).1
      have Hlim2 := hid ((hE2.block w.heap.size hlw (by omega)).trans Hlim.out)
      have HE2 := hid (HE.out.drew.trans hE2)
      have HS2 := hid hS2
      have cS2 := cell_of_row _ _ 0 _ _ _ Hlim2.out
      have cW2 := cell_of_row _ _ 1 _ _ _ Hlim2.out
      have cK2 := cell_of_row _ _ 2 _ _ _ Hlim2.out
      simp only [List.getElem?_toArray, List.getElem?_cons_zero, List.getElem?_cons_succ] at cS2 cW2 cK2
      refine hK.out _ _ cS2 (fun hSw => ?_)
      clear hK K hE2 hS2 HS HE Hlim cS cW cK
      refine wpAnyH_take (i := 7) (v := ?_) rfl (by decide +kernel) (by decide +kernel) (by decide +kernel) (fun _ _ _ h => h) (Or.inl ⟨by rfl, ?_⟩) hSw ?_
      rotate_left
      · intro w hw; go_simp; try with_reducible rfl
      simp only [Act.put, List.getElem_toArray, List.getElem_cons_zero, List.getElem_cons_succ, List.setIfInBounds_toArray, List.set_cons_zero, List.set_cons_succ]
      refine wpAnyH_done (by kernel_rfl) ?_ _
      by_cases h1 : st ≤ (runW y b).t
      · have Htk2 := hid (Htk.out.trans (if_pos h1))
        generalize runW y b = y1 at *
        go_wp2
        go_ret
        rw [Htk2.out]
        exact ⟨rfl, HS2.out, HE2.out⟩
      · have Htk2 := hid (Htk.out.trans (if_neg h1))
        have wb := winW_bd (runW y b) b wi (by omega) (by omega) (by omega) hwi
        have rn : (runW y b).n = y.n := rr.2.1
        have rc : (runW y b).c = y.c := rr.2.2
        have rt1 := rt.1
        have rt2 := rt.2
        clear Htk rr rt
        generalize runW y b = y1 at *
        have h1' : ¬ st ≤ y1.t := h1
        go_wp2_with fail
        refine wp_region_held_drew (S := fun w' => w'.cell? ⟨w.heap.size, 1, none⟩ = some (.int .i64 wi) ∧ w'.cell? ⟨w.heap.size, 2, none⟩ = some (.int .i64 sk)) (by kernel_rfl) ⟨cW2, cK2⟩ (fun hSw => ?_)
        refine wpAnyH_take (i := 0) (v := ?_) rfl (by decide +kernel) (by decide +kernel) (by decide +kernel) (fun _ _ _ h => h) (Or.inl ⟨by rfl, ?_⟩) hSw ?_
        rotate_left
        · intro w hw; go_simp; try with_reducible rfl
        simp only [Act.put, List.getElem_toArray, List.getElem_cons_zero, List.getElem_cons_succ, List.setIfInBounds_toArray, List.set_cons_zero, List.set_cons_succ]
        refine wpAnyH_take (i := 1) (v := ?_) rfl (by decide +kernel) (by decide +kernel) (by decide +kernel) (fun _ _ _ h => h) (Or.inl ⟨by rfl, ?_⟩) hSw ?_
        rotate_left
        · intro w hw; go_simp; try with_reducible rfl
        simp only [Act.put, List.getElem_toArray, List.getElem_cons_zero, List.getElem_cons_succ, List.setIfInBounds_toArray, List.set_cons_zero, List.set_cons_succ]
        refine wpAnyH_take (i := 2) (v := ?_) rfl (by decide +kernel) (by decide +kernel) (by decide +kernel) (fun _ _ _ h => h) (Or.inl ⟨by rfl, ?_⟩) hSw ?_
        rotate_left
        · intro w hw; go_simp; try with_reducible rfl
        simp only [Act.put, List.getElem_toArray, List.getElem_cons_zero, List.getElem_cons_succ, List.setIfInBounds_toArray, List.set_cons_zero, List.set_cons_succ]
        refine wpAnyH_take (i := 3) (v := ?_) rfl (by decide +kernel) (by decide +kernel) (by decide +kernel) (fun _ _ _ h => h) (Or.inl ⟨by rfl, ?_⟩) hSw ?_
        rotate_left
        · intro w hw; go_simp; try with_reducible rfl
        simp only [Act.put, List.getElem_toArray, List.getElem_cons_zero, List.getElem_cons_succ, List.setIfInBounds_toArray, List.set_cons_zero, List.set_cons_succ]
        refine wpAnyH_take (i := 4) (v := ?_) rfl (by decide +kernel) (by decide +kernel) (by decide +kernel) (fun _ _ _ h => h) (Or.inl ⟨by rfl, ?_⟩) hSw ?_
        rotate_left
        · intro w hw; go_simp; try with_reducible rfl
        simp only [Act.put, List.getElem_toArray, List.getElem_cons_zero, List.getElem_cons_succ, List.setIfInBounds_toArray, List.set_cons_zero, List.set_cons_succ]
        refine wpAnyH_take (i := 5) (v := ?_) rfl (by decide +kernel) (by decide +kernel) (by decide +kernel) (fun _ _ _ h => h) (Or.inl ⟨by rfl, ?_⟩) hSw ?_
        rotate_left
        · intro w hw; have hcell := hw.1; clear hw; go_simp; try with_reducible rfl
        simp only [Act.put, List.getElem_toArray, List.getElem_cons_zero, List.getElem_cons_succ, List.setIfInBounds_toArray, List.set_cons_zero, List.set_cons_succ]
        refine wpAnyH_take (i := 7) (v := ?_) rfl (by decide +kernel) (by decide +kernel) (by decide +kernel) (fun _ _ _ h => h) (Or.inl ⟨by rfl, ?_⟩) hSw ?_
        rotate_left
        · intro w hw; go_simp; try with_reducible rfl
        simp only [Act.put, List.getElem_toArray, List.getElem_cons_zero, List.getElem_cons_succ, List.setIfInBounds_toArray, List.set_cons_zero, List.set_cons_succ]
        refine wpAnyH_take (i := 8) (v := ?_) rfl (by decide +kernel) (by decide +kernel) (by decide +kernel) (fun _ _ _ h => h) (Or.inl ⟨by rfl, ?_⟩) hSw ?_
        rotate_left
        · intro w hw; have hcell := hw.2; clear hw; go_simp; try with_reducible rfl
        simp only [Act.put, List.getElem_toArray, List.getElem_cons_zero, List.getElem_cons_succ, List.setIfInBounds_toArray, List.set_cons_zero, List.set_cons_succ]
        refine wpAnyH_ready (rs := [6]) (by kernel_rfl) (by simp) ?_
        refine AllReadyH.cons rfl (fun K hK => ?_) AllReadyH.nil
        go_simp
        refine (wcount_any y1 b wi B (o + 2) pre post w2.drew (show WsAt w2.drew B pre post y1 from HS2.out) (by omega) (by omega) (by omega) (by omega) (by omega)).mono ?_
        rintro e w3 ⟨rfl, hS3, hE3⟩
        have hlw2 : w.heap.size < w2.heap.size := (Array.getElem?_eq_some_iff.1 Hlim2.out).1
        have Hlim3 := hid ((hE3.block w.heap.size hlw2 (by omega)).trans Hlim2.out)
        have HE3 := hid (HE2.out.drew.trans hE3)
        have HS3 := hid hS3
        have cW3 := cell_of_row _ _ 1 _ _ _ Hlim3.out
        have cK3 := cell_of_row _ _ 2 _ _ _ Hlim3.out
        simp only [List.getElem?_toArray, List.getElem?_cons_zero, List.getElem?_cons_succ] at cW3 cK3
        refine hK.out _ _ ⟨cW3, cK3⟩ (fun hSw => ?_)
        clear hK K hE3 hS3 HS2 HE2 Hlim2 cS2 cW2 cK2
        refine wpAnyH_take (i := 9) (v := ?_) rfl (by decide +kernel) (by decide +kernel) (by decide +kernel) (fun _ _ _ h => h) (Or.inl ⟨by rfl, ?_⟩) hSw ?_
        rotate_left
        · intro w hw; go_simp; try with_reducible rfl
        simp only [Act.put, List.getElem_toArray, List.getElem_cons_zero, List.getElem_cons_succ, List.setIfInBounds_toArray, List.set_cons_zero, List.set_cons_succ]
        refine wpAnyH_done (by kernel_rfl) ?_ _
        by_cases h2 : sk ≤ (winW y1 b wi).n
        · have Htk3 := hid (Htk2.out.trans (if_pos h2))
          generalize winW y1 b wi = y2 at *
          go_wp2
          go_ret
          rw [Htk3.out]
          exact ⟨rfl, HS3.out, HE3.out⟩
        · have Htk3 := hid (Htk2.out.trans (if_neg h2))
          have hok : (winW y1 b wi).ok st wi sk := ⟨by omega, by omega, wb.2.1, by omega, wb.2.2.2.1, wb.2.2.2.2⟩
          generalize winW y1 b wi = y2 at *
          have h2' : ¬ sk ≤ y2.n := h2
          clear Htk2 wb
          go_wp2
          exact ⟨⟨k + 1, y2, by omega, by go_num, hok, Htk3.out, HS3.out, Hlim3.out, HE3.out⟩, by simp [intOf]; omega⟩
    · obtain rfl : k = xs.length := by omega
      rw [List.drop_of_length_le (by omega)] at htk
      have hfin : takeW st wi sk y [] xs.length = (y, none) := rfl
      rw [hfin] at htk
      go_wp2
      go_ret
      rw [htk]
      exact ⟨rfl, hS, hE⟩

end Go.Proofs.Ytbifmhbkmnofiaa
