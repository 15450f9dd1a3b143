import Derived.Test.YtbifmhbkmnofiaaWg
namespace Go.Proofs.Ytbifmhbkmnofiaa
open Go.RowKit
set_option linter.unusedVariables false
set_option linter.unusedSimpArgs false
/-- what springkeep's wrong answers -/
def wrongV (n : Nat) : Option (Bool × Nat) → Value
  | none => .tuple #[.int .i64 n, .int .i64 0]
  | some (false, k) => .tuple #[.int .i64 k, .int .i64 4]
  | some (true, k) => .tuple #[.int .i64 k, .int .i64 5]
set_option maxRecDepth 20000 in
set_option maxHeartbeats 2000000 in
theorem wrong_any (st sk : Int) (W : Nat) (s : ByteArray) (w : World) (h1 : 2 ≤ st) (h2 : st ≤ 50) (h3 : 2 ≤ W) (h4 : W ≤ 50) (h5 : 2 ≤ sk) (h6 : sk ≤ 50) (hs : s.size ≤ 1000) :
    Calls Try.prog 27 #[.agg #[.int .i64 st, .int .i64 W, .int .i64 sk], .string s] w fun e w' => e = .returned (wrongV s.size (takeW st W sk W0 (bts s) 0).2) ∧ Below w.heap.size w w' := by
  have hb1 := al_new w (.cells #[.int .i64 st, .int .i64 W, .int .i64 sk] 51)
  have hB1 : Below w.heap.size w (w.alloc (.cells #[.int .i64 st, .int .i64 W, .int .i64 sk] 51)) := (Below.refl _ _).alloc (Nat.le_refl _) _
  have HB1 := hid hB1
  have Hb1 := hid hb1
  clear hb1 hB1
  have hbl := bts_len s
  go_enter Try.func27, Try.ntmps27
  go_wp2
  generalize (w.alloc (.cells #[.int .i64 st, .int .i64 W, .int .i64 sk] 51)) = w1 at *
  go_loopw [6, 7, 8] (fun r c i wr => ∃ (k : Nat) (y : WS), k ≤ s.size ∧ i = .int .i64 k ∧ r = .int .i64 y.t ∧ c = .int .i64 y.n ∧ y.ok st W sk ∧ takeW st W sk W0 (bts s) 0 = takeW st W sk y ((bts s).drop k) k ∧ Rl (bts s) W k y ∧ wr.heap[w.heap.size]? = some (.cells #[.int .i64 st, .int .i64 W, .int .i64 sk] 51 (0, 0)) ∧ Below w.heap.size w wr) (fun r c i _ => s.size - (intOf i).toNat)
  case atStart => exact ⟨0, W0, by omega, rfl, rfl, rfl, ⟨by decide, by show (0:Int) < st; omega, by decide, by show (0:Int) < sk; omega, by decide, by show (0:Int) ≤ W; omega⟩, rfl, Rl.zero _ _, Hb1.out, HB1.out⟩
  case round =>
    clear Hb1 HB1
    obtain ⟨k, y, hk, rfl, rfl, rfl, hy, htk, hR, hlim, hB⟩ := hrel
    have cS := cell_of_row _ _ 0 _ _ _ hlim
    have cW := cell_of_row _ _ 1 _ _ _ hlim
    have cK := cell_of_row _ _ 2 _ _ _ hlim
    simp only [List.getElem?_toArray, List.getElem?_cons_zero, List.getElem?_cons_succ] at cS cW cK
    by_cases hlt : k < s.size
    · have hlt' : (k : Int) < s.size := by omega
      have Htk := hid htk
      have HR := hid hR
      have Hlim := hid hlim
      have HB := hid hB
      have Hy := hid hy
      clear htk hR hlim hB hy
      by_cases hk0 : k = 0
      · subst hk0
        have hWp : (0 : Int) % (W : Int) = 0 := Int.zero_emod _
        have gb := bts_get s 0 hlt
        have hdr : (bts s).drop 0 = ((s[0]).toNat : Int) :: (bts s).drop 1 := by
          rw [List.drop_eq_getElem_cons (by rw [hbl]; exact hlt), ← gb, List.getElem?_eq_getElem (by rw [hbl]; exact hlt)]; rfl
        have hrun := HR.out.run ((s[0]).toNat : Int)
        have hwin := (HR.out.win h3 ((s[0]).toNat : Int) gb.symm).1
        have Hnext := hid (HR.out.next h3 ((s[0]).toNat : Int) gb.symm)
        have htu : takeW st W sk y (((s[0]).toNat : Int) :: (bts s).drop 1) 0 = if st ≤ (runW y ((s[0]).toNat : Int)).t then (runW y ((s[0]).toNat : Int), some (false, 0)) else if sk ≤ (winW (runW y ((s[0]).toNat : Int)) ((s[0]).toNat : Int) W).n then (winW (runW y ((s[0]).toNat : Int)) ((s[0]).toNat : Int) W, some (true, 0)) else takeW st W sk (winW (runW y ((s[0]).toNat : Int)) ((s[0]).toNat : Int) W) ((bts s).drop 1) 1 := rfl
        have Htk2 := hid ((Htk.out.trans (by rw [hdr])).trans htu)
        have hy0 := Hy.out.t0
        have hyn0 := Hy.out.n0
        obtain ⟨rt1, rt2⟩ := runW_t y ((s[0]).toNat : Int) hy0
        obtain ⟨_, rr2, rr3⟩ := runW_rest y ((s[0]).toNat : Int)
        have Hwb := hid (winW_bd (runW y ((s[0]).toNat : Int)) ((s[0]).toNat : Int) W (by rw [rr2]; exact hyn0) (by rw [rr3]; exact Hy.out.c0) (by rw [rr3]; exact Hy.out.c1) (by omega))
        have hr' : Hd ((runW y ((s[0]).toNat : Int)).t = 1) := hid (by rw [hrun]; exact if_neg (fun hh => absurd hh.1 (by decide)))
        have hn' : Hd ((winW (runW y ((s[0]).toNat : Int)) ((s[0]).toNat : Int) W).n = 1) := hid (by rw [hwin, Nat.zero_mod]; exact if_pos rfl)
        clear htu hdr Htk HR gb hrun hwin rt1 rt2 rr2 rr3
        go_wp2
        go_region
        have eW : wr.drew.cell? ⟨w.heap.size, 1, none⟩ = some (.int .i64 W) := cW
        go_wp2
        have gS : wr.drew.drew.cell? ⟨w.heap.size, 0, none⟩ = some (.int .i64 st) := cS
        have gW : wr.drew.drew.cell? ⟨w.heap.size, 1, none⟩ = some (.int .i64 W) := cW
        have gK : wr.drew.drew.cell? ⟨w.heap.size, 2, none⟩ = some (.int .i64 sk) := cK
        go_region
        have q1 : ((1 : Int) == sk) = false := beq_eq_false_iff_ne.2 (by omega)
        have q2 : (1 : Int) < st := by omega
        have q3 : ((1 : Int) == st) = false := beq_eq_false_iff_ne.2 (by omega)
        go_wp2
        refine ⟨⟨1, winW (runW y ((s[0]).toNat : Int)) ((s[0]).toNat : Int) W, by omega, by go_num, by rw [Hwb.out.1, hr'.out], by rw [hn'.out], ⟨by rw [Hwb.out.1, hr'.out]; omega, by rw [Hwb.out.1, hr'.out]; omega, Hwb.out.2.1, by rw [hn'.out]; omega, Hwb.out.2.2.2.1, Hwb.out.2.2.2.2⟩, by rw [Htk2.out, if_neg (by rw [hr'.out]; omega), if_neg (by rw [hn'.out]; omega)], Hnext.out, Hlim.out, HB.out.drew.drew⟩, by simp [intOf]; omega⟩
      · have hk1 : (0 : Int) < k := by omega
        obtain ⟨j, rfl⟩ : ∃ j, k = j + 1 := ⟨k - 1, by omega⟩
        have hj : j < s.size := by omega
        have hj1 : ((j + 1 : Nat) : Int) - 1 = (j : Int) := by omega
        have hj2 : (0 : Int) ≤ (j : Int) + 1 := by omega
        have hj3 : (0 : Int) < (j : Int) + 1 := by omega
        have hj4 : (j : Int) + 1 < s.size := by omega
        have hWp : 0 < W := by omega
        obtain ⟨m, hmd⟩ : ∃ m, (j + 1) % W = m := ⟨_, rfl⟩
        obtain ⟨d, hd⟩ : ∃ d, j + 1 - m = d := ⟨_, rfl⟩
        have hml : m < W := hmd ▸ Nat.mod_lt (j + 1) hWp
        have hmle : m ≤ j + 1 := hmd ▸ Nat.mod_le (j + 1) W
        have hm : ((j : Int) + 1) % (W : Int) = (m : Int) := by rw [← hmd]; push_cast; rfl
        have hd2 : d < s.size := by omega
        have hd1 : ((j : Int) + 1) - (m : Int) = (d : Int) := by omega
        have gb := bts_get s (j + 1) hlt
        have gp := bts_get s j hj
        have gd := bts_get s d hd2
        have hdr : (bts s).drop (j + 1) = ((s[j + 1]).toNat : Int) :: (bts s).drop (j + 2) := by
          rw [List.drop_eq_getElem_cons (by rw [hbl]; exact hlt), ← gb, List.getElem?_eq_getElem (by rw [hbl]; exact hlt)]; rfl
        have hrun := HR.out.run ((s[j + 1]).toNat : Int)
        have hwin := (HR.out.win h3 ((s[j + 1]).toNat : Int) gb.symm).1
        have Hnext := hid (HR.out.next h3 ((s[j + 1]).toNat : Int) gb.symm)
        have htu : takeW st W sk y (((s[j + 1]).toNat : Int) :: (bts s).drop (j + 2)) (j + 1) = if st ≤ (runW y ((s[j + 1]).toNat : Int)).t then (runW y ((s[j + 1]).toNat : Int), some (false, j + 1)) else if sk ≤ (winW (runW y ((s[j + 1]).toNat : Int)) ((s[j + 1]).toNat : Int) W).n then (winW (runW y ((s[j + 1]).toNat : Int)) ((s[j + 1]).toNat : Int) W, some (true, j + 1)) else takeW st W sk (winW (runW y ((s[j + 1]).toNat : Int)) ((s[j + 1]).toNat : Int) W) ((bts s).drop (j + 2)) (j + 2) := rfl
        have Htk2 := hid ((Htk.out.trans (by rw [hdr])).trans htu)
        rw [Nat.add_sub_cancel, gp] at hrun
        rw [hmd, hd, gd] at hwin
        have hy0 := Hy.out.t0
        have hy1 := Hy.out.t1
        have hyn0 := Hy.out.n0
        have hyn1 := Hy.out.n1
        obtain ⟨rt1, rt2⟩ := runW_t y ((s[j + 1]).toNat : Int) hy0
        obtain ⟨_, rr2, rr3⟩ := runW_rest y ((s[j + 1]).toNat : Int)
        have Hwb := hid (winW_bd (runW y ((s[j + 1]).toNat : Int)) ((s[j + 1]).toNat : Int) W (by rw [rr2]; exact hyn0) (by rw [rr3]; exact Hy.out.c0) (by rw [rr3]; exact Hy.out.c1) (by omega))
        have Hrun := hid hrun
        have Hwin := hid hwin
        clear htu hdr Htk HR gb gp gd hrun hwin rt1 rt2 rr2 rr3
        go_wp2
        go_region
        have eS : wr.drew.cell? ⟨w.heap.size, 0, none⟩ = some (.int .i64 st) := cS
        have eW : wr.drew.cell? ⟨w.heap.size, 1, none⟩ = some (.int .i64 W) := cW
        have eK : wr.drew.cell? ⟨w.heap.size, 2, none⟩ = some (.int .i64 sk) := cK
        by_cases hbp : ((s[j + 1]).toNat : Int) = ((s[j]).toNat : Int)
        · have hbp' : (((s[j + 1]).toNat : Int) == ((s[j]).toNat : Int)) = true := beq_iff_eq.2 hbp
          by_cases hm0 : m = 0
          · subst hm0
            obtain rfl : j + 1 = d := by omega
            have hm0' : (((0 : Nat) : Int) == 0) = true := by decide
            have hr' : Hd ((runW y ((s[j + 1]).toNat : Int)).t = y.t + 1) := hid (by rw [Hrun.out]; exact if_pos ⟨Nat.succ_pos _, hbp⟩)
            have hn' : Hd ((winW (runW y ((s[j + 1]).toNat : Int)) ((s[j + 1]).toNat : Int) W).n = 1) := hid (by rw [Hwin.out]; exact if_pos rfl)
            go_wp2
            have gS : wr.drew.drew.cell? ⟨w.heap.size, 0, none⟩ = some (.int .i64 st) := cS
            have gW : wr.drew.drew.cell? ⟨w.heap.size, 1, none⟩ = some (.int .i64 W) := cW
            have gK : wr.drew.drew.cell? ⟨w.heap.size, 2, none⟩ = some (.int .i64 sk) := cK
            go_region
            by_cases c1 : st ≤ (y.t + 1 : Int)
            · have q1 : ((y.t + 1 : Int) == st) = true := beq_iff_eq.2 (by omega)
              have Hc := hid c1
              have q2 : ¬ ((y.t + 1 : Int) < st) := by omega
              go_wp2
              go_ret2
              rw [Htk2.out, if_pos (by rw [hr'.out]; have := Hc.out; omega)]
              exact ⟨rfl, HB.out.drew.drew⟩
            · by_cases c2 : sk ≤ (1 : Int)
              · exact absurd c2 (by omega)
              · have q1 : ((1 : Int) == sk) = false := beq_eq_false_iff_ne.2 (by omega)
                have q2 : ((y.t + 1 : Int) < st) := by omega
                have q3 : ((y.t + 1 : Int) == st) = false := beq_eq_false_iff_ne.2 (by omega)
                have Hc1 := hid c1
                have Hc2 := hid c2
                go_wp2
                refine ⟨⟨j + 2, winW (runW y ((s[j + 1]).toNat : Int)) ((s[j + 1]).toNat : Int) W, by omega, by go_num, by rw [Hwb.out.1, hr'.out], by rw [hn'.out], ⟨by rw [Hwb.out.1, hr'.out]; omega, by rw [Hwb.out.1, hr'.out]; omega, Hwb.out.2.1, by rw [hn'.out]; omega, Hwb.out.2.2.2.1, Hwb.out.2.2.2.2⟩, by rw [Htk2.out, if_neg (by rw [hr'.out]; have := Hc1.out; omega), if_neg (by rw [hn'.out]; have := Hc2.out; omega)], Hnext.out, Hlim.out, HB.out.drew.drew⟩, by simp [intOf]; omega⟩
          · have hm0' : ((m : Int) == 0) = false := beq_eq_false_iff_ne.2 (by omega)
            by_cases hbd : ((s[j + 1]).toNat : Int) = ((s[d]).toNat : Int)
            · have hbd' : (((s[j + 1]).toNat : Int) == ((s[d]).toNat : Int)) = true := beq_iff_eq.2 hbd
              have hr' : Hd ((runW y ((s[j + 1]).toNat : Int)).t = y.t + 1) := hid (by rw [Hrun.out]; exact if_pos ⟨Nat.succ_pos _, hbp⟩)
              have hn' : Hd ((winW (runW y ((s[j + 1]).toNat : Int)) ((s[j + 1]).toNat : Int) W).n = y.n + 1) := hid (by rw [Hwin.out]; rw [if_neg hm0, if_pos hbd])
              go_wp2
              have gS : wr.drew.drew.cell? ⟨w.heap.size, 0, none⟩ = some (.int .i64 st) := cS
              have gW : wr.drew.drew.cell? ⟨w.heap.size, 1, none⟩ = some (.int .i64 W) := cW
              have gK : wr.drew.drew.cell? ⟨w.heap.size, 2, none⟩ = some (.int .i64 sk) := cK
              go_region
              by_cases c1 : st ≤ (y.t + 1 : Int)
              · have q1 : ((y.t + 1 : Int) == st) = true := beq_iff_eq.2 (by omega)
                have Hc := hid c1
                have q2 : ¬ ((y.t + 1 : Int) < st) := by omega
                go_wp2
                go_ret2
                rw [Htk2.out, if_pos (by rw [hr'.out]; have := Hc.out; omega)]
                exact ⟨rfl, HB.out.drew.drew⟩
              · by_cases c2 : sk ≤ (y.n + 1 : Int)
                · have q1 : ((y.n + 1 : Int) == sk) = true := beq_iff_eq.2 (by omega)
                  have q2 : ((y.t + 1 : Int) < st) := by omega
                  have Hc1 := hid c1
                  have Hc2 := hid c2
                  go_wp2
                  go_ret2
                  rw [Htk2.out, if_neg (by rw [hr'.out]; have := Hc1.out; omega), if_pos (by rw [hn'.out]; have := Hc2.out; omega)]
                  exact ⟨rfl, HB.out.drew.drew⟩
                · have q1 : ((y.n + 1 : Int) == sk) = false := beq_eq_false_iff_ne.2 (by omega)
                  have q2 : ((y.t + 1 : Int) < st) := by omega
                  have q3 : ((y.t + 1 : Int) == st) = false := beq_eq_false_iff_ne.2 (by omega)
                  have Hc1 := hid c1
                  have Hc2 := hid c2
                  go_wp2
                  refine ⟨⟨j + 2, winW (runW y ((s[j + 1]).toNat : Int)) ((s[j + 1]).toNat : Int) W, by omega, by go_num, by rw [Hwb.out.1, hr'.out], by rw [hn'.out], ⟨by rw [Hwb.out.1, hr'.out]; omega, by rw [Hwb.out.1, hr'.out]; omega, Hwb.out.2.1, by rw [hn'.out]; omega, Hwb.out.2.2.2.1, Hwb.out.2.2.2.2⟩, by rw [Htk2.out, if_neg (by rw [hr'.out]; have := Hc1.out; omega), if_neg (by rw [hn'.out]; have := Hc2.out; omega)], Hnext.out, Hlim.out, HB.out.drew.drew⟩, by simp [intOf]; omega⟩
            · have hbd' : (((s[j + 1]).toNat : Int) == ((s[d]).toNat : Int)) = false := beq_eq_false_iff_ne.2 hbd
              have hr' : Hd ((runW y ((s[j + 1]).toNat : Int)).t = y.t + 1) := hid (by rw [Hrun.out]; exact if_pos ⟨Nat.succ_pos _, hbp⟩)
              have hn' : Hd ((winW (runW y ((s[j + 1]).toNat : Int)) ((s[j + 1]).toNat : Int) W).n = y.n) := hid (by rw [Hwin.out]; rw [if_neg hm0, if_neg hbd])
              go_wp2
              have gS : wr.drew.drew.cell? ⟨w.heap.size, 0, none⟩ = some (.int .i64 st) := cS
              have gW : wr.drew.drew.cell? ⟨w.heap.size, 1, none⟩ = some (.int .i64 W) := cW
              have gK : wr.drew.drew.cell? ⟨w.heap.size, 2, none⟩ = some (.int .i64 sk) := cK
              go_region
              by_cases c1 : st ≤ (y.t + 1 : Int)
              · have q1 : ((y.t + 1 : Int) == st) = true := beq_iff_eq.2 (by omega)
                have Hc := hid c1
                have q2 : ¬ ((y.t + 1 : Int) < st) := by omega
                go_wp2
                go_ret2
                rw [Htk2.out, if_pos (by rw [hr'.out]; have := Hc.out; omega)]
                exact ⟨rfl, HB.out.drew.drew⟩
              · by_cases c2 : sk ≤ (y.n : Int)
                · exact absurd c2 (by omega)
                · have q1 : ((y.n : Int) == sk) = false := beq_eq_false_iff_ne.2 (by omega)
                  have q2 : ((y.t + 1 : Int) < st) := by omega
                  have q3 : ((y.t + 1 : Int) == st) = false := beq_eq_false_iff_ne.2 (by omega)
                  have Hc1 := hid c1
                  have Hc2 := hid c2
                  go_wp2
                  refine ⟨⟨j + 2, winW (runW y ((s[j + 1]).toNat : Int)) ((s[j + 1]).toNat : Int) W, by omega, by go_num, by rw [Hwb.out.1, hr'.out], by rw [hn'.out], ⟨by rw [Hwb.out.1, hr'.out]; omega, by rw [Hwb.out.1, hr'.out]; omega, Hwb.out.2.1, by rw [hn'.out]; omega, Hwb.out.2.2.2.1, Hwb.out.2.2.2.2⟩, by rw [Htk2.out, if_neg (by rw [hr'.out]; have := Hc1.out; omega), if_neg (by rw [hn'.out]; have := Hc2.out; omega)], Hnext.out, Hlim.out, HB.out.drew.drew⟩, by simp [intOf]; omega⟩
        · have hbp' : (((s[j + 1]).toNat : Int) == ((s[j]).toNat : Int)) = false := beq_eq_false_iff_ne.2 hbp
          by_cases hm0 : m = 0
          · subst hm0
            obtain rfl : j + 1 = d := by omega
            have hm0' : (((0 : Nat) : Int) == 0) = true := by decide
            have hr' : Hd ((runW y ((s[j + 1]).toNat : Int)).t = 1) := hid (by rw [Hrun.out]; exact if_neg (fun hh => hbp hh.2))
            have hn' : Hd ((winW (runW y ((s[j + 1]).toNat : Int)) ((s[j + 1]).toNat : Int) W).n = 1) := hid (by rw [Hwin.out]; exact if_pos rfl)
            go_wp2
            have gS : wr.drew.drew.cell? ⟨w.heap.size, 0, none⟩ = some (.int .i64 st) := cS
            have gW : wr.drew.drew.cell? ⟨w.heap.size, 1, none⟩ = some (.int .i64 W) := cW
            have gK : wr.drew.drew.cell? ⟨w.heap.size, 2, none⟩ = some (.int .i64 sk) := cK
            go_region
            by_cases c1 : st ≤ (1 : Int)
            · exact absurd c1 (by omega)
            · by_cases c2 : sk ≤ (1 : Int)
              · exact absurd c2 (by omega)
              · have q1 : ((1 : Int) == sk) = false := beq_eq_false_iff_ne.2 (by omega)
                have q2 : ((1 : Int) < st) := by omega
                have q3 : ((1 : Int) == st) = false := beq_eq_false_iff_ne.2 (by omega)
                have Hc1 := hid c1
                have Hc2 := hid c2
                go_wp2
                refine ⟨⟨j + 2, winW (runW y ((s[j + 1]).toNat : Int)) ((s[j + 1]).toNat : Int) W, by omega, by go_num, by rw [Hwb.out.1, hr'.out], by rw [hn'.out], ⟨by rw [Hwb.out.1, hr'.out]; omega, by rw [Hwb.out.1, hr'.out]; omega, Hwb.out.2.1, by rw [hn'.out]; omega, Hwb.out.2.2.2.1, Hwb.out.2.2.2.2⟩, by rw [Htk2.out, if_neg (by rw [hr'.out]; have := Hc1.out; omega), if_neg (by rw [hn'.out]; have := Hc2.out; omega)], Hnext.out, Hlim.out, HB.out.drew.drew⟩, by simp [intOf]; omega⟩
          · have hm0' : ((m : Int) == 0) = false := beq_eq_false_iff_ne.2 (by omega)
            by_cases hbd : ((s[j + 1]).toNat : Int) = ((s[d]).toNat : Int)
            · have hbd' : (((s[j + 1]).toNat : Int) == ((s[d]).toNat : Int)) = true := beq_iff_eq.2 hbd
              have hr' : Hd ((runW y ((s[j + 1]).toNat : Int)).t = 1) := hid (by rw [Hrun.out]; exact if_neg (fun hh => hbp hh.2))
              have hn' : Hd ((winW (runW y ((s[j + 1]).toNat : Int)) ((s[j + 1]).toNat : Int) W).n = y.n + 1) := hid (by rw [Hwin.out]; rw [if_neg hm0, if_pos hbd])
              go_wp2
              have gS : wr.drew.drew.cell? ⟨w.heap.size, 0, none⟩ = some (.int .i64 st) := cS
              have gW : wr.drew.drew.cell? ⟨w.heap.size, 1, none⟩ = some (.int .i64 W) := cW
              have gK : wr.drew.drew.cell? ⟨w.heap.size, 2, none⟩ = some (.int .i64 sk) := cK
              go_region
              by_cases c1 : st ≤ (1 : Int)
              · exact absurd c1 (by omega)
              · by_cases c2 : sk ≤ (y.n + 1 : Int)
                · have q1 : ((y.n + 1 : Int) == sk) = true := beq_iff_eq.2 (by omega)
                  have q2 : ((1 : Int) < st) := by omega
                  have Hc1 := hid c1
                  have Hc2 := hid c2
                  go_wp2
                  go_ret2
                  rw [Htk2.out, if_neg (by rw [hr'.out]; have := Hc1.out; omega), if_pos (by rw [hn'.out]; have := Hc2.out; omega)]
                  exact ⟨rfl, HB.out.drew.drew⟩
                · have q1 : ((y.n + 1 : Int) == sk) = false := beq_eq_false_iff_ne.2 (by omega)
                  have q2 : ((1 : Int) < st) := by omega
                  have q3 : ((1 : Int) == st) = false := beq_eq_false_iff_ne.2 (by omega)
                  have Hc1 := hid c1
                  have Hc2 := hid c2
                  go_wp2
                  refine ⟨⟨j + 2, winW (runW y ((s[j + 1]).toNat : Int)) ((s[j + 1]).toNat : Int) W, by omega, by go_num, by rw [Hwb.out.1, hr'.out], by rw [hn'.out], ⟨by rw [Hwb.out.1, hr'.out]; omega, by rw [Hwb.out.1, hr'.out]; omega, Hwb.out.2.1, by rw [hn'.out]; omega, Hwb.out.2.2.2.1, Hwb.out.2.2.2.2⟩, by rw [Htk2.out, if_neg (by rw [hr'.out]; have := Hc1.out; omega), if_neg (by rw [hn'.out]; have := Hc2.out; omega)], Hnext.out, Hlim.out, HB.out.drew.drew⟩, by simp [intOf]; omega⟩
            · have hbd' : (((s[j + 1]).toNat : Int) == ((s[d]).toNat : Int)) = false := beq_eq_false_iff_ne.2 hbd
              have hr' : Hd ((runW y ((s[j + 1]).toNat : Int)).t = 1) := hid (by rw [Hrun.out]; exact if_neg (fun hh => hbp hh.2))
              have hn' : Hd ((winW (runW y ((s[j + 1]).toNat : Int)) ((s[j + 1]).toNat : Int) W).n = y.n) := hid (by rw [Hwin.out]; rw [if_neg hm0, if_neg hbd])
              go_wp2
              have gS : wr.drew.drew.cell? ⟨w.heap.size, 0, none⟩ = some (.int .i64 st) := cS
              have gW : wr.drew.drew.cell? ⟨w.heap.size, 1, none⟩ = some (.int .i64 W) := cW
              have gK : wr.drew.drew.cell? ⟨w.heap.size, 2, none⟩ = some (.int .i64 sk) := cK
              go_region
              by_cases c1 : st ≤ (1 : Int)
              · exact absurd c1 (by omega)
              · by_cases c2 : sk ≤ (y.n : Int)
                · exact absurd c2 (by omega)
                · have q1 : ((y.n : Int) == sk) = false := beq_eq_false_iff_ne.2 (by omega)
                  have q2 : ((1 : Int) < st) := by omega
                  have q3 : ((1 : Int) == st) = false := beq_eq_false_iff_ne.2 (by omega)
                  have Hc1 := hid c1
                  have Hc2 := hid c2
                  go_wp2
                  refine ⟨⟨j + 2, winW (runW y ((s[j + 1]).toNat : Int)) ((s[j + 1]).toNat : Int) W, by omega, by go_num, by rw [Hwb.out.1, hr'.out], by rw [hn'.out], ⟨by rw [Hwb.out.1, hr'.out]; omega, by rw [Hwb.out.1, hr'.out]; omega, Hwb.out.2.1, by rw [hn'.out]; omega, Hwb.out.2.2.2.1, Hwb.out.2.2.2.2⟩, by rw [Htk2.out, if_neg (by rw [hr'.out]; have := Hc1.out; omega), if_neg (by rw [hn'.out]; have := Hc2.out; omega)], Hnext.out, Hlim.out, HB.out.drew.drew⟩, by simp [intOf]; omega⟩
    · have hlt' : ¬ (k : Int) < s.size := by omega
      have hk2 : k = s.size := by omega
      have Ht : Hd ((takeW st W sk W0 (bts s) 0).2 = none) := hid (by rw [htk, List.drop_eq_nil_of_le (by rw [hbl]; omega)]; rfl)
      have HB := hid hB
      clear htk hR hlim hB hy
      go_wp2
      go_ret2
      rw [Ht.out]
      exact ⟨rfl, HB.out⟩
end Go.Proofs.Ytbifmhbkmnofiaa
