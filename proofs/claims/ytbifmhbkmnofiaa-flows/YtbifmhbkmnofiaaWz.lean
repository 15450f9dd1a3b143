import Derived.Test.YtbifmhbkmnofiaaWe
import Derived.Test.YtbifmhbkmnofiaaDr
import Derived.Test.YtbifmhbkmnofiaaKc
import Derived.Lib.SlBytesConst
import Derived.Test.YtbifmhbkmnofiaaDs
namespace Go.Proofs.Ytbifmhbkmnofiaa
open Go.RowKit
set_option linter.unusedVariables false
set_option linter.unusedSimpArgs false
set_option maxRecDepth 20000 in
set_option maxHeartbeats 1000000 in
theorem kwatch_any (a b c : Int) (w : World) (ha : -9223372036854775808 ≤ a) (ha' : a ≤ 9223372036854775807) (hb : -9223372036854775808 ≤ b) (hb' : b ≤ 9223372036854775807) (hc : -9223372036854775808 ≤ c) (hc' : c ≤ 9223372036854775807) :
    Calls Try.prog 25 #[.int .i64 a, .int .i64 b, .int .i64 c] w fun e w' => e = .returned (.agg #[.int .i64 (2 + pickI a 49), .int .i64 (2 + pickI b 49), .int .i64 (2 + pickI c (2 + pickI b 49 - 1))]) ∧ Below w.heap.size w w' := by
  obtain ⟨p0, p1⟩ := pickI_bd a 49 (by decide)
  obtain ⟨q0, q1⟩ := pickI_bd b 49 (by decide)
  obtain ⟨r0, r1⟩ := pickI_bd c (2 + pickI b 49 - 1) (by omega)
  go_enter Try.func25, Try.ntmps25
  go_wp2_with fail
  refine (pick_any a 49 _ ha ha' (by decide) (by decide)).mono ?_
  rintro e w1 ⟨rfl, rfl⟩
  go_wp2_with fail
  refine (pick_any b 49 _ hb hb' (by decide) (by decide)).mono ?_
  rintro e w1 ⟨rfl, rfl⟩
  generalize hp : pickI a 49 = p at *
  generalize hq : pickI b 49 = q at *
  have Hp := hid hp
  have Hq := hid hq
  clear hp hq
  go_wp2_with fail
  refine (pick_any c (2 + q - 1) _ hc hc' (by omega) (by omega)).mono ?_
  rintro e w1 ⟨rfl, rfl⟩
  generalize hr : pickI c (2 + q - 1) = r at *
  have Hr := hid hr
  clear hr
  go_wp2
  refine bodyPost_ret (results_cell_row (fn := Try.f25) (ty := 51) (p := 6) (by kernel_rfl) _ _ w.heap.size 51 #[.int .i64 (2 + p), .int .i64 (2 + q), .int .i64 (2 + r)] (0,0) _ rfl (al_old _ _ _ _ (al_new _ _)) Try.underlying51 rfl (by kernel_rfl)) rfl ⟨by rw [Hp.out, Hq.out, Hr.out], ((Below.refl _ _).alloc (Nat.le_refl _) _).alloc (by rw [al_size]; exact Nat.le_succ _) _⟩
end Go.Proofs.Ytbifmhbkmnofiaa
namespace Go.Proofs.Ytbifmhbkmnofiaa
open Go.RowKit
set_option linter.unusedVariables false
set_option linter.unusedSimpArgs false
/-- the watch's state behind the first k samples, by its meaning -/
def Rl (xs : List Int) (W k : Nat) (y : WS) : Prop :=
  (k = 0 → y = W0) ∧ (0 < k → y.s = xs[k - 1]?.getD 0 ∧ y.c = ((k - 1) % W : Nat) + 1 ∧ y.f = xs[(k - 1) - (k - 1) % W]?.getD 0)
theorem pred_mod {k W : Nat} (h : 0 < k) (hW : 2 ≤ W) : (k % W = 0 → (k - 1) % W + 1 = W) ∧ (k % W ≠ 0 → (k - 1) % W + 1 = k % W) := by
  obtain ⟨j, rfl⟩ : ∃ j, k = j + 1 := ⟨k - 1, by omega⟩
  rw [Nat.add_sub_cancel]
  have h1 := Nat.mod_lt j (show 0 < W by omega)
  by_cases hc : j % W + 1 = W
  · have : (j + 1) % W = 0 := by rw [Nat.add_mod, Nat.mod_eq_of_lt (show 1 < W by omega), hc, Nat.mod_self]
    exact ⟨fun _ => hc, fun h => absurd this h⟩
  · have : (j + 1) % W = j % W + 1 := by rw [Nat.add_mod, Nat.mod_eq_of_lt (show 1 < W by omega), Nat.mod_eq_of_lt (by omega)]
    exact ⟨fun h => by omega, fun _ => this.symm⟩
theorem Rl.run {xs : List Int} {W k : Nat} {y : WS} (h : Rl xs W k y) (b : Int) : (runW y b).t = if 0 < k ∧ b = xs[k - 1]?.getD 0 then y.t + 1 else 1 := by
  by_cases hk : k = 0
  · rw [h.1 hk, if_neg (by omega)]
    unfold runW W0
    dsimp only
    split <;> simp
  · have h2 := (h.2 (by omega)).1
    unfold runW
    rw [h2]
    by_cases hb : b = xs[k - 1]?.getD 0
    · rw [if_pos hb, if_pos ⟨by omega, hb⟩]
    · rw [if_neg hb, if_neg (fun hh => hb hh.2)]
theorem runW_s (y : WS) (b : Int) : (runW y b).s = b := by
  unfold runW
  split
  · rename_i h; exact h.symm
  · rfl
theorem Rl.win {xs : List Int} {W k : Nat} {y : WS} (h : Rl xs W k y) (hW : 2 ≤ W) (b : Int) (hb : b = xs[k]?.getD 0) :
    (winW (runW y b) b W).n = (if k % W = 0 then 1 else if b = xs[k - k % W]?.getD 0 then y.n + 1 else y.n) ∧ (winW (runW y b) b W).c = (k % W : Nat) + 1 ∧ (winW (runW y b) b W).f = xs[k - k % W]?.getD 0 ∧ (winW (runW y b) b W).s = b := by
  obtain ⟨rf, rn, rc⟩ := runW_rest y b
  have rs := runW_s y b
  by_cases hk : k = 0
  · have hy := h.1 hk
    subst hk
    rw [hy] at rf rn rc rs ⊢
    have hn0 : ¬ (runW W0 b).c = (W : Int) := by rw [rc]; show ¬ (0 : Int) = W; omega
    rw [winW_first b hn0 (by rw [rc]; rfl)]
    dsimp only
    rw [rs, rn]
    simp [hb, W0]
  · obtain ⟨h1, h2, h3⟩ := h.2 (by omega)
    obtain ⟨p1, p2⟩ := pred_mod (show 0 < k by omega) hW
    by_cases hm : k % W = 0
    · have hc := p1 hm
      have hn0 : (runW y b).c = (W : Int) := by rw [rc, h2]; omega
      rw [winW_new b hn0]
      dsimp only
      rw [rs, hm]
      simp [hb]
    · have hc := p2 hm
      have hlt := Nat.mod_lt k (show 0 < W by omega)
      have hn0 : ¬ (runW y b).c = (W : Int) := by rw [rc, h2]; omega
      have hn1 : ¬ (runW y b).c = 0 := by rw [rc, h2]; omega
      have hf : xs[k - 1 - (k - 1) % W]?.getD 0 = xs[k - k % W]?.getD 0 := by congr 2; omega
      by_cases hbf : b = xs[k - k % W]?.getD 0
      · rw [winW_same b hn0 hn1 (by rw [rf, h3, hf]; exact hbf)]
        dsimp only
        rw [if_neg hm, if_pos hbf, rn, rc, h2, rf, h3, hf, rs]
        refine ⟨rfl, by omega, rfl, rfl⟩
      · rw [winW_else b hn0 hn1 (by rw [rf, h3, hf]; exact hbf)]
        dsimp only
        rw [if_neg hm, if_neg hbf, rn, rc, h2, rf, h3, hf, rs]
        refine ⟨rfl, by omega, rfl, rfl⟩
theorem Rl.next {xs : List Int} {W k : Nat} {y : WS} (h : Rl xs W k y) (hW : 2 ≤ W) (b : Int) (hb : b = xs[k]?.getD 0) : Rl xs W (k + 1) (winW (runW y b) b W) := by
  obtain ⟨_, h2, h3, h4⟩ := h.win hW b hb
  exact ⟨fun h => by omega, fun _ => ⟨by rw [h4, hb, Nat.add_sub_cancel], by rw [h2, Nat.add_sub_cancel], by rw [h3, Nat.add_sub_cancel]⟩⟩
theorem Rl.zero (xs : List Int) (W : Nat) : Rl xs W 0 W0 := ⟨fun _ => rfl, fun h => by omega⟩
end Go.Proofs.Ytbifmhbkmnofiaa
namespace Go.Proofs.Ytbifmhbkmnofiaa
open Go.RowKit
set_option linter.unusedVariables false
set_option linter.unusedSimpArgs false
/-- what springkeep's wrong answers -/
def wrongV (n : Nat) : Option (Bool × Nat) → Value
  | none => .tuple #[.int .i64 n, .int .i64 0]
  | some (false, k) => .tuple #[.int .i64 k, .int .i64 4]
  | some (true, k) => .tuple #[.int .i64 k, .int .i64 5]
set_option maxRecDepth 20000 in
set_option maxHeartbeats 2000000 in
theorem wrong_any (st sk : Int) (W : Nat) (s : ByteArray) (w : World) (h1 : 2 ≤ st) (h2 : st ≤ 50) (h3 : 2 ≤ W) (h4 : W ≤ 50) (h5 : 2 ≤ sk) (h6 : sk ≤ 50) (hs : s.size ≤ 1000) :
    Calls Try.prog 27 #[.agg #[.int .i64 st, .int .i64 W, .int .i64 sk], .string s] w fun e w' => e = .returned (wrongV s.size (takeW st W sk W0 (bts s) 0).2) ∧ Below w.heap.size w w' := by
  have hb1 := al_new w (.cells #[.int .i64 st, .int .i64 W, .int .i64 sk] 51)
  have hB1 : Below w.heap.size w (w.alloc (.cells #[.int .i64 st, .int .i64 W, .int .i64 sk] 51)) := (Below.refl _ _).alloc (Nat.le_refl _) _
  have HB1 := hid hB1
  have Hb1 := hid hb1
  clear hb1 hB1
  have hbl := bts_len s
  go_enter Try.func27, Try.ntmps27
  go_wp2
  generalize (w.alloc (.cells #[.int .i64 st, .int .i64 W, .int .i64 sk] 51)) = w1 at *
  go_loopw [6, 7, 8] (fun r c i wr => ∃ (k : Nat) (y : WS), k ≤ s.size ∧ i = .int .i64 k ∧ r = .int .i64 y.t ∧ c = .int .i64 y.n ∧ y.ok st W sk ∧ takeW st W sk W0 (bts s) 0 = takeW st W sk y ((bts s).drop k) k ∧ Rl (bts s) W k y ∧ wr.heap[w.heap.size]? = some (.cells #[.int .i64 st, .int .i64 W, .int .i64 sk] 51 (0, 0)) ∧ Below w.heap.size w wr) (fun r c i _ => s.size - (intOf i).toNat)
  case atStart => exact ⟨0, W0, by omega, rfl, rfl, rfl, ⟨by decide, by show (0:Int) < st; omega, by decide, by show (0:Int) < sk; omega, by decide, by show (0:Int) ≤ W; omega⟩, rfl, Rl.zero _ _, Hb1.out, HB1.out⟩
  case round =>
    clear Hb1 HB1
    obtain ⟨k, y, hk, rfl, rfl, rfl, hy, htk, hR, hlim, hB⟩ := hrel
    have cS := cell_of_row _ _ 0 _ _ _ hlim
    have cW := cell_of_row _ _ 1 _ _ _ hlim
    have cK := cell_of_row _ _ 2 _ _ _ hlim
    simp only [List.getElem?_toArray, List.getElem?_cons_zero, List.getElem?_cons_succ] at cS cW cK
    by_cases hlt : k < s.size
    · have hlt' : (k : Int) < s.size := by omega
      have Htk := hid htk
      have HR := hid hR
      have Hlim := hid hlim
      have HB := hid hB
      have Hy := hid hy
      clear htk hR hlim hB hy
      by_cases hk0 : k = 0
      · subst hk0
        have hWp : (0 : Int) % (W : Int) = 0 := Int.zero_emod _
        have gb := bts_get s 0 hlt
        have hdr : (bts s).drop 0 = ((s[0]).toNat : Int) :: (bts s).drop 1 := by
          rw [List.drop_eq_getElem_cons (by rw [hbl]; exact hlt), ← gb, List.getElem?_eq_getElem (by rw [hbl]; exact hlt)]; rfl
        have hrun := HR.out.run ((s[0]).toNat : Int)
        have hwin := (HR.out.win h3 ((s[0]).toNat : Int) gb.symm).1
        have Hnext := hid (HR.out.next h3 ((s[0]).toNat : Int) gb.symm)
        have htu : takeW st W sk y (((s[0]).toNat : Int) :: (bts s).drop 1) 0 = if st ≤ (runW y ((s[0]).toNat : Int)).t then (runW y ((s[0]).toNat : Int), some (false, 0)) else if sk ≤ (winW (runW y ((s[0]).toNat : Int)) ((s[0]).toNat : Int) W).n then (winW (runW y ((s[0]).toNat : Int)) ((s[0]).toNat : Int) W, some (true, 0)) else takeW st W sk (winW (runW y ((s[0]).toNat : Int)) ((s[0]).toNat : Int) W) ((bts s).drop 1) 1 := rfl
        have Htk2 := hid ((Htk.out.trans (by rw [hdr])).trans htu)
        have hy0 := Hy.out.t0
        have hyn0 := Hy.out.n0
        obtain ⟨rt1, rt2⟩ := runW_t y ((s[0]).toNat : Int) hy0
        obtain ⟨_, rr2, rr3⟩ := runW_rest y ((s[0]).toNat : Int)
        have Hwb := hid (winW_bd (runW y ((s[0]).toNat : Int)) ((s[0]).toNat : Int) W (by rw [rr2]; exact hyn0) (by rw [rr3]; exact Hy.out.c0) (by rw [rr3]; exact Hy.out.c1) (by omega))
        have hr' : Hd ((runW y ((s[0]).toNat : Int)).t = 1) := hid (by rw [hrun]; exact if_neg (fun hh => absurd hh.1 (by decide)))
        have hn' : Hd ((winW (runW y ((s[0]).toNat : Int)) ((s[0]).toNat : Int) W).n = 1) := hid (by rw [hwin, Nat.zero_mod]; exact if_pos rfl)
        clear htu hdr Htk HR gb hrun hwin rt1 rt2 rr2 rr3
        go_wp2
        go_region
        have eW : wr.drew.cell? ⟨w.heap.size, 1, none⟩ = some (.int .i64 W) := cW
        go_wp2
        have gS : wr.drew.drew.cell? ⟨w.heap.size, 0, none⟩ = some (.int .i64 st) := cS
        have gW : wr.drew.drew.cell? ⟨w.heap.size, 1, none⟩ = some (.int .i64 W) := cW
        have gK : wr.drew.drew.cell? ⟨w.heap.size, 2, none⟩ = some (.int .i64 sk) := cK
        go_region
        have q1 : ((1 : Int) == sk) = false := beq_eq_false_iff_ne.2 (by omega)
        have q2 : (1 : Int) < st := by omega
        have q3 : ((1 : Int) == st) = false := beq_eq_false_iff_ne.2 (by omega)
        go_wp2
        refine ⟨⟨1, winW (runW y ((s[0]).toNat : Int)) ((s[0]).toNat : Int) W, by omega, by go_num, by rw [Hwb.out.1, hr'.out], by rw [hn'.out], ⟨by rw [Hwb.out.1, hr'.out]; omega, by rw [Hwb.out.1, hr'.out]; omega, Hwb.out.2.1, by rw [hn'.out]; omega, Hwb.out.2.2.2.1, Hwb.out.2.2.2.2⟩, by rw [Htk2.out, if_neg (by rw [hr'.out]; omega), if_neg (by rw [hn'.out]; omega)], Hnext.out, Hlim.out, HB.out.drew.drew⟩, by simp [intOf]; omega⟩
      · have hk1 : (0 : Int) < k := by omega
        obtain ⟨j, rfl⟩ : ∃ j, k = j + 1 := ⟨k - 1, by omega⟩
        have hj : j < s.size := by omega
        have hj1 : ((j + 1 : Nat) : Int) - 1 = (j : Int) := by omega
        have hj2 : (0 : Int) ≤ (j : Int) + 1 := by omega
        have hj3 : (0 : Int) < (j : Int) + 1 := by omega
        have hj4 : (j : Int) + 1 < s.size := by omega
        have hWp : 0 < W := by omega
        obtain ⟨m, hmd⟩ : ∃ m, (j + 1) % W = m := ⟨_, rfl⟩
        obtain ⟨d, hd⟩ : ∃ d, j + 1 - m = d := ⟨_, rfl⟩
        have hml : m < W := hmd ▸ Nat.mod_lt (j + 1) hWp
        have hmle : m ≤ j + 1 := hmd ▸ Nat.mod_le (j + 1) W
        have hm : ((j : Int) + 1) % (W : Int) = (m : Int) := by rw [← hmd]; push_cast; rfl
        have hd2 : d < s.size := by omega
        have hd1 : ((j : Int) + 1) - (m : Int) = (d : Int) := by omega
        have gb := bts_get s (j + 1) hlt
        have gp := bts_get s j hj
        have gd := bts_get s d hd2
        have hdr : (bts s).drop (j + 1) = ((s[j + 1]).toNat : Int) :: (bts s).drop (j + 2) := by
          rw [List.drop_eq_getElem_cons (by rw [hbl]; exact hlt), ← gb, List.getElem?_eq_getElem (by rw [hbl]; exact hlt)]; rfl
        have hrun := HR.out.run ((s[j + 1]).toNat : Int)
        have hwin := (HR.out.win h3 ((s[j + 1]).toNat : Int) gb.symm).1
        have Hnext := hid (HR.out.next h3 ((s[j + 1]).toNat : Int) gb.symm)
        have htu : takeW st W sk y (((s[j + 1]).toNat : Int) :: (bts s).drop (j + 2)) (j + 1) = if st ≤ (runW y ((s[j + 1]).toNat : Int)).t then (runW y ((s[j + 1]).toNat : Int), some (false, j + 1)) else if sk ≤ (winW (runW y ((s[j + 1]).toNat : Int)) ((s[j + 1]).toNat : Int) W).n then (winW (runW y ((s[j + 1]).toNat : Int)) ((s[j + 1]).toNat : Int) W, some (true, j + 1)) else takeW st W sk (winW (runW y ((s[j + 1]).toNat : Int)) ((s[j + 1]).toNat : Int) W) ((bts s).drop (j + 2)) (j + 2) := rfl
        have Htk2 := hid ((Htk.out.trans (by rw [hdr])).trans htu)
        rw [Nat.add_sub_cancel, gp] at hrun
        rw [hmd, hd, gd] at hwin
        have hy0 := Hy.out.t0
        have hy1 := Hy.out.t1
        have hyn0 := Hy.out.n0
        have hyn1 := Hy.out.n1
        obtain ⟨rt1, rt2⟩ := runW_t y ((s[j + 1]).toNat : Int) hy0
        obtain ⟨_, rr2, rr3⟩ := runW_rest y ((s[j + 1]).toNat : Int)
        have Hwb := hid (winW_bd (runW y ((s[j + 1]).toNat : Int)) ((s[j + 1]).toNat : Int) W (by rw [rr2]; exact hyn0) (by rw [rr3]; exact Hy.out.c0) (by rw [rr3]; exact Hy.out.c1) (by omega))
        have Hrun := hid hrun
        have Hwin := hid hwin
        clear htu hdr Htk HR gb gp gd hrun hwin rt1 rt2 rr2 rr3
        go_wp2
        go_region
        have eS : wr.drew.cell? ⟨w.heap.size, 0, none⟩ = some (.int .i64 st) := cS
        have eW : wr.drew.cell? ⟨w.heap.size, 1, none⟩ = some (.int .i64 W) := cW
        have eK : wr.drew.cell? ⟨w.heap.size, 2, none⟩ = some (.int .i64 sk) := cK
        by_cases hbp : ((s[j + 1]).toNat : Int) = ((s[j]).toNat : Int)
        · have hbp' : (((s[j + 1]).toNat : Int) == ((s[j]).toNat : Int)) = true := beq_iff_eq.2 hbp
          by_cases hm0 : m = 0
          · subst hm0
            obtain rfl : j + 1 = d := by omega
            have hm0' : (((0 : Nat) : Int) == 0) = true := by decide
            have hr' : Hd ((runW y ((s[j + 1]).toNat : Int)).t = y.t + 1) := hid (by rw [Hrun.out]; exact if_pos ⟨Nat.succ_pos _, hbp⟩)
            have hn' : Hd ((winW (runW y ((s[j + 1]).toNat : Int)) ((s[j + 1]).toNat : Int) W).n = 1) := hid (by rw [Hwin.out]; exact if_pos rfl)
            go_wp2
            have gS : wr.drew.drew.cell? ⟨w.heap.size, 0, none⟩ = some (.int .i64 st) := cS
            have gW : wr.drew.drew.cell? ⟨w.heap.size, 1, none⟩ = some (.int .i64 W) := cW
            have gK : wr.drew.drew.cell? ⟨w.heap.size, 2, none⟩ = some (.int .i64 sk) := cK
            go_region
            by_cases c1 : st ≤ (y.t + 1 : Int)
            · have q1 : ((y.t + 1 : Int) == st) = true := beq_iff_eq.2 (by omega)
              have Hc := hid c1
              have q2 : ¬ ((y.t + 1 : Int) < st) := by omega
              go_wp2
              go_ret2
              rw [Htk2.out, if_pos (by rw [hr'.out]; have := Hc.out; omega)]
              exact ⟨rfl, HB.out.drew.drew⟩
            · by_cases c2 : sk ≤ (1 : Int)
              · exact absurd c2 (by omega)
              · have q1 : ((1 : Int) == sk) = false := beq_eq_false_iff_ne.2 (by omega)
                have q2 : ((y.t + 1 : Int) < st) := by omega
                have q3 : ((y.t + 1 : Int) == st) = false := beq_eq_false_iff_ne.2 (by omega)
                have Hc1 := hid c1
                have Hc2 := hid c2
                go_wp2
                refine ⟨⟨j + 2, winW (runW y ((s[j + 1]).toNat : Int)) ((s[j + 1]).toNat : Int) W, by omega, by go_num, by rw [Hwb.out.1, hr'.out], by rw [hn'.out], ⟨by rw [Hwb.out.1, hr'.out]; omega, by rw [Hwb.out.1, hr'.out]; omega, Hwb.out.2.1, by rw [hn'.out]; omega, Hwb.out.2.2.2.1, Hwb.out.2.2.2.2⟩, by rw [Htk2.out, if_neg (by rw [hr'.out]; have := Hc1.out; omega), if_neg (by rw [hn'.out]; have := Hc2.out; omega)], Hnext.out, Hlim.out, HB.out.drew.drew⟩, by simp [intOf]; omega⟩
          · have hm0' : ((m : Int) == 0) = false := beq_eq_false_iff_ne.2 (by omega)
            by_cases hbd : ((s[j + 1]).toNat : Int) = ((s[d]).toNat : Int)
            · have hbd' : (((s[j + 1]).toNat : Int) == ((s[d]).toNat : Int)) = true := beq_iff_eq.2 hbd
              have hr' : Hd ((runW y ((s[j + 1]).toNat : Int)).t = y.t + 1) := hid (by rw [Hrun.out]; exact if_pos ⟨Nat.succ_pos _, hbp⟩)
              have hn' : Hd ((winW (runW y ((s[j + 1]).toNat : Int)) ((s[j + 1]).toNat : Int) W).n = y.n + 1) := hid (by rw [Hwin.out]; rw [if_neg hm0, if_pos hbd])
              go_wp2
              have gS : wr.drew.drew.cell? ⟨w.heap.size, 0, none⟩ = some (.int .i64 st) := cS
              have gW : wr.drew.drew.cell? ⟨w.heap.size, 1, none⟩ = some (.int .i64 W) := cW
              have gK : wr.drew.drew.cell? ⟨w.heap.size, 2, none⟩ = some (.int .i64 sk) := cK
              go_region
              by_cases c1 : st ≤ (y.t + 1 : Int)
              · have q1 : ((y.t + 1 : Int) == st) = true := beq_iff_eq.2 (by omega)
                have Hc := hid c1
                have q2 : ¬ ((y.t + 1 : Int) < st) := by omega
                go_wp2
                go_ret2
                rw [Htk2.out, if_pos (by rw [hr'.out]; have := Hc.out; omega)]
                exact ⟨rfl, HB.out.drew.drew⟩
              · by_cases c2 : sk ≤ (y.n + 1 : Int)
                · have q1 : ((y.n + 1 : Int) == sk) = true := beq_iff_eq.2 (by omega)
                  have q2 : ((y.t + 1 : Int) < st) := by omega
                  have Hc1 := hid c1
                  have Hc2 := hid c2
                  go_wp2
                  go_ret2
                  rw [Htk2.out, if_neg (by rw [hr'.out]; have := Hc1.out; omega), if_pos (by rw [hn'.out]; have := Hc2.out; omega)]
                  exact ⟨rfl, HB.out.drew.drew⟩
                · have q1 : ((y.n + 1 : Int) == sk) = false := beq_eq_false_iff_ne.2 (by omega)
                  have q2 : ((y.t + 1 : Int) < st) := by omega
                  have q3 : ((y.t + 1 : Int) == st) = false := beq_eq_false_iff_ne.2 (by omega)
                  have Hc1 := hid c1
                  have Hc2 := hid c2
                  go_wp2
                  refine ⟨⟨j + 2, winW (runW y ((s[j + 1]).toNat : Int)) ((s[j + 1]).toNat : Int) W, by omega, by go_num, by rw [Hwb.out.1, hr'.out], by rw [hn'.out], ⟨by rw [Hwb.out.1, hr'.out]; omega, by rw [Hwb.out.1, hr'.out]; omega, Hwb.out.2.1, by rw [hn'.out]; omega, Hwb.out.2.2.2.1, Hwb.out.2.2.2.2⟩, by rw [Htk2.out, if_neg (by rw [hr'.out]; have := Hc1.out; omega), if_neg (by rw [hn'.out]; have := Hc2.out; omega)], Hnext.out, Hlim.out, HB.out.drew.drew⟩, by simp [intOf]; omega⟩
            · have hbd' : (((s[j + 1]).toNat : Int) == ((s[d]).toNat : Int)) = false := beq_eq_false_iff_ne.2 hbd
              have hr' : Hd ((runW y ((s[j + 1]).toNat : Int)).t = y.t + 1) := hid (by rw [Hrun.out]; exact if_pos ⟨Nat.succ_pos _, hbp⟩)
              have hn' : Hd ((winW (runW y ((s[j + 1]).toNat : Int)) ((s[j + 1]).toNat : Int) W).n = y.n) := hid (by rw [Hwin.out]; rw [if_neg hm0, if_neg hbd])
              go_wp2
              have gS : wr.drew.drew.cell? ⟨w.heap.size, 0, none⟩ = some (.int .i64 st) := cS
              have gW : wr.drew.drew.cell? ⟨w.heap.size, 1, none⟩ = some (.int .i64 W) := cW
              have gK : wr.drew.drew.cell? ⟨w.heap.size, 2, none⟩ = some (.int .i64 sk) := cK
              go_region
              by_cases c1 : st ≤ (y.t + 1 : Int)
              · have q1 : ((y.t + 1 : Int) == st) = true := beq_iff_eq.2 (by omega)
                have Hc := hid c1
                have q2 : ¬ ((y.t + 1 : Int) < st) := by omega
                go_wp2
                go_ret2
                rw [Htk2.out, if_pos (by rw [hr'.out]; have := Hc.out; omega)]
                exact ⟨rfl, HB.out.drew.drew⟩
              · by_cases c2 : sk ≤ (y.n : Int)
                · exact absurd c2 (by omega)
                · have q1 : ((y.n : Int) == sk) = false := beq_eq_false_iff_ne.2 (by omega)
                  have q2 : ((y.t + 1 : Int) < st) := by omega
                  have q3 : ((y.t + 1 : Int) == st) = false := beq_eq_false_iff_ne.2 (by omega)
                  have Hc1 := hid c1
                  have Hc2 := hid c2
                  go_wp2
                  refine ⟨⟨j + 2, winW (runW y ((s[j + 1]).toNat : Int)) ((s[j + 1]).toNat : Int) W, by omega, by go_num, by rw [Hwb.out.1, hr'.out], by rw [hn'.out], ⟨by rw [Hwb.out.1, hr'.out]; omega, by rw [Hwb.out.1, hr'.out]; omega, Hwb.out.2.1, by rw [hn'.out]; omega, Hwb.out.2.2.2.1, Hwb.out.2.2.2.2⟩, by rw [Htk2.out, if_neg (by rw [hr'.out]; have := Hc1.out; omega), if_neg (by rw [hn'.out]; have := Hc2.out; omega)], Hnext.out, Hlim.out, HB.out.drew.drew⟩, by simp [intOf]; omega⟩
        · have hbp' : (((s[j + 1]).toNat : Int) == ((s[j]).toNat : Int)) = false := beq_eq_false_iff_ne.2 hbp
          by_cases hm0 : m = 0
          · subst hm0
            obtain rfl : j + 1 = d := by omega
            have hm0' : (((0 : Nat) : Int) == 0) = true := by decide
            have hr' : Hd ((runW y ((s[j + 1]).toNat : Int)).t = 1) := hid (by rw [Hrun.out]; exact if_neg (fun hh => hbp hh.2))
            have hn' : Hd ((winW (runW y ((s[j + 1]).toNat : Int)) ((s[j + 1]).toNat : Int) W).n = 1) := hid (by rw [Hwin.out]; exact if_pos rfl)
            go_wp2
            have gS : wr.drew.drew.cell? ⟨w.heap.size, 0, none⟩ = some (.int .i64 st) := cS
            have gW : wr.drew.drew.cell? ⟨w.heap.size, 1, none⟩ = some (.int .i64 W) := cW
            have gK : wr.drew.drew.cell? ⟨w.heap.size, 2, none⟩ = some (.int .i64 sk) := cK
            go_region
            by_cases c1 : st ≤ (1 : Int)
            · exact absurd c1 (by omega)
            · by_cases c2 : sk ≤ (1 : Int)
              · exact absurd c2 (by omega)
              · have q1 : ((1 : Int) == sk) = false := beq_eq_false_iff_ne.2 (by omega)
                have q2 : ((1 : Int) < st) := by omega
                have q3 : ((1 : Int) == st) = false := beq_eq_false_iff_ne.2 (by omega)
                have Hc1 := hid c1
                have Hc2 := hid c2
                go_wp2
                refine ⟨⟨j + 2, winW (runW y ((s[j + 1]).toNat : Int)) ((s[j + 1]).toNat : Int) W, by omega, by go_num, by rw [Hwb.out.1, hr'.out], by rw [hn'.out], ⟨by rw [Hwb.out.1, hr'.out]; omega, by rw [Hwb.out.1, hr'.out]; omega, Hwb.out.2.1, by rw [hn'.out]; omega, Hwb.out.2.2.2.1, Hwb.out.2.2.2.2⟩, by rw [Htk2.out, if_neg (by rw [hr'.out]; have := Hc1.out; omega), if_neg (by rw [hn'.out]; have := Hc2.out; omega)], Hnext.out, Hlim.out, HB.out.drew.drew⟩, by simp [intOf]; omega⟩
          · have hm0' : ((m : Int) == 0) = false := beq_eq_false_iff_ne.2 (by omega)
            by_cases hbd : ((s[j + 1]).toNat : Int) = ((s[d]).toNat : Int)
            · have hbd' : (((s[j + 1]).toNat : Int) == ((s[d]).toNat : Int)) = true := beq_iff_eq.2 hbd
              have hr' : Hd ((runW y ((s[j + 1]).toNat : Int)).t = 1) := hid (by rw [Hrun.out]; exact if_neg (fun hh => hbp hh.2))
              have hn' : Hd ((winW (runW y ((s[j + 1]).toNat : Int)) ((s[j + 1]).toNat : Int) W).n = y.n + 1) := hid (by rw [Hwin.out]; rw [if_neg hm0, if_pos hbd])
              go_wp2
              have gS : wr.drew.drew.cell? ⟨w.heap.size, 0, none⟩ = some (.int .i64 st) := cS
              have gW : wr.drew.drew.cell? ⟨w.heap.size, 1, none⟩ = some (.int .i64 W) := cW
              have gK : wr.drew.drew.cell? ⟨w.heap.size, 2, none⟩ = some (.int .i64 sk) := cK
              go_region
              by_cases c1 : st ≤ (1 : Int)
              · exact absurd c1 (by omega)
              · by_cases c2 : sk ≤ (y.n + 1 : Int)
                · have q1 : ((y.n + 1 : Int) == sk) = true := beq_iff_eq.2 (by omega)
                  have q2 : ((1 : Int) < st) := by omega
                  have Hc1 := hid c1
                  have Hc2 := hid c2
                  go_wp2
                  go_ret2
                  rw [Htk2.out, if_neg (by rw [hr'.out]; have := Hc1.out; omega), if_pos (by rw [hn'.out]; have := Hc2.out; omega)]
                  exact ⟨rfl, HB.out.drew.drew⟩
                · have q1 : ((y.n + 1 : Int) == sk) = false := beq_eq_false_iff_ne.2 (by omega)
                  have q2 : ((1 : Int) < st) := by omega
                  have q3 : ((1 : Int) == st) = false := beq_eq_false_iff_ne.2 (by omega)
                  have Hc1 := hid c1
                  have Hc2 := hid c2
                  go_wp2
                  refine ⟨⟨j + 2, winW (runW y ((s[j + 1]).toNat : Int)) ((s[j + 1]).toNat : Int) W, by omega, by go_num, by rw [Hwb.out.1, hr'.out], by rw [hn'.out], ⟨by rw [Hwb.out.1, hr'.out]; omega, by rw [Hwb.out.1, hr'.out]; omega, Hwb.out.2.1, by rw [hn'.out]; omega, Hwb.out.2.2.2.1, Hwb.out.2.2.2.2⟩, by rw [Htk2.out, if_neg (by rw [hr'.out]; have := Hc1.out; omega), if_neg (by rw [hn'.out]; have := Hc2.out; omega)], Hnext.out, Hlim.out, HB.out.drew.drew⟩, by simp [intOf]; omega⟩
            · have hbd' : (((s[j + 1]).toNat : Int) == ((s[d]).toNat : Int)) = false := beq_eq_false_iff_ne.2 hbd
              have hr' : Hd ((runW y ((s[j + 1]).toNat : Int)).t = 1) := hid (by rw [Hrun.out]; exact if_neg (fun hh => hbp hh.2))
              have hn' : Hd ((winW (runW y ((s[j + 1]).toNat : Int)) ((s[j + 1]).toNat : Int) W).n = y.n) := hid (by rw [Hwin.out]; rw [if_neg hm0, if_neg hbd])
              go_wp2
              have gS : wr.drew.drew.cell? ⟨w.heap.size, 0, none⟩ = some (.int .i64 st) := cS
              have gW : wr.drew.drew.cell? ⟨w.heap.size, 1, none⟩ = some (.int .i64 W) := cW
              have gK : wr.drew.drew.cell? ⟨w.heap.size, 2, none⟩ = some (.int .i64 sk) := cK
              go_region
              by_cases c1 : st ≤ (1 : Int)
              · exact absurd c1 (by omega)
              · by_cases c2 : sk ≤ (y.n : Int)
                · exact absurd c2 (by omega)
                · have q1 : ((y.n : Int) == sk) = false := beq_eq_false_iff_ne.2 (by omega)
                  have q2 : ((1 : Int) < st) := by omega
                  have q3 : ((1 : Int) == st) = false := beq_eq_false_iff_ne.2 (by omega)
                  have Hc1 := hid c1
                  have Hc2 := hid c2
                  go_wp2
                  refine ⟨⟨j + 2, winW (runW y ((s[j + 1]).toNat : Int)) ((s[j + 1]).toNat : Int) W, by omega, by go_num, by rw [Hwb.out.1, hr'.out], by rw [hn'.out], ⟨by rw [Hwb.out.1, hr'.out]; omega, by rw [Hwb.out.1, hr'.out]; omega, Hwb.out.2.1, by rw [hn'.out]; omega, Hwb.out.2.2.2.1, Hwb.out.2.2.2.2⟩, by rw [Htk2.out, if_neg (by rw [hr'.out]; have := Hc1.out; omega), if_neg (by rw [hn'.out]; have := Hc2.out; omega)], Hnext.out, Hlim.out, HB.out.drew.drew⟩, by simp [intOf]; omega⟩
    · have hlt' : ¬ (k : Int) < s.size := by omega
      have hk2 : k = s.size := by omega
      have Ht : Hd ((takeW st W sk W0 (bts s) 0).2 = none) := hid (by rw [htk, List.drop_eq_nil_of_le (by rw [hbl]; omega)]; rfl)
      have HB := hid hB
      clear htk hR hlim hB hy
      go_wp2
      go_ret2
      rw [Ht.out]
      exact ⟨rfl, HB.out⟩
end Go.Proofs.Ytbifmhbkmnofiaa
namespace Go.Proofs.Ytbifmhbkmnofiaa
open Go.RowKit
set_option linter.unusedVariables false
set_option linter.unusedSimpArgs false
theorem takeW_cons (st wi sk : Int) (x : WS) (b : Int) (r : List Int) (k : Nat) : takeW st wi sk x (b :: r) k = if st ≤ (runW x b).t then (runW x b, some (false, k)) else if sk ≤ (winW (runW x b) b wi).n then (winW (runW x b) b wi, some (true, k)) else takeW st wi sk (winW (runW x b) b wi) r (k + 1) := rfl
/-- one piece behind the other, where nothing is wrong with the first -/
theorem takeW_none {st wi sk : Int} {x y : WS} {us : List Int} {k : Nat} (h : takeW st wi sk x us k = (y, none)) (bs : List Int) : takeW st wi sk x (us ++ bs) k = takeW st wi sk y bs (k + us.length) := by
  induction us generalizing x k with
  | nil => cases h; rfl
  | cons a us ih =>
    rw [takeW_cons] at h
    rw [List.cons_append, takeW_cons]
    by_cases h1 : st ≤ (runW x a).t
    · rw [if_pos h1] at h; simp at h
    · rw [if_neg h1] at h ⊢
      by_cases h2 : sk ≤ (winW (runW x a) a wi).n
      · rw [if_pos h2] at h; simp at h
      · rw [if_neg h2] at h ⊢
        rw [ih h, List.length_cons]
        congr 1
        omega
/-- .. and where the first is wrong -/
theorem takeW_some {st wi sk : Int} {x y : WS} {us : List Int} {k : Nat} {f : Bool × Nat} (h : takeW st wi sk x us k = (y, some f)) (bs : List Int) : takeW st wi sk x (us ++ bs) k = (y, some f) := by
  induction us generalizing x k with
  | nil => simp [takeW] at h
  | cons a us ih =>
    rw [takeW_cons] at h
    rw [List.cons_append, takeW_cons]
    by_cases h1 : st ≤ (runW x a).t
    · rw [if_pos h1] at h ⊢; exact h
    · rw [if_neg h1] at h ⊢
      by_cases h2 : sk ≤ (winW (runW x a) a wi).n
      · rw [if_pos h2] at h ⊢; exact h
      · rw [if_neg h2] at h ⊢
        exact ih h
theorem takeW_lt {st wi sk : Int} {x y : WS} {us : List Int} {k p : Nat} {f : Bool} (h : takeW st wi sk x us k = (y, some (f, p))) : k ≤ p ∧ p < k + us.length := by
  induction us generalizing x k with
  | nil => simp [takeW] at h
  | cons a us ih =>
    rw [takeW_cons] at h
    rw [List.length_cons]
    by_cases h1 : st ≤ (runW x a).t
    · rw [if_pos h1] at h; simp at h; omega
    · rw [if_neg h1] at h
      by_cases h2 : sk ≤ (winW (runW x a) a wi).n
      · rw [if_pos h2] at h; simp at h; omega
      · rw [if_neg h2] at h
        have := ih h
        omega
/-- the place is counted from where one begins -/
theorem takeW_shift (st wi sk : Int) (x : WS) (us : List Int) (k c : Nat) : takeW st wi sk x us (k + c) = ((takeW st wi sk x us k).1, (takeW st wi sk x us k).2.map fun f => (f.1, f.2 + c)) := by
  induction us generalizing x k with
  | nil => rfl
  | cons a us ih =>
    rw [takeW_cons, takeW_cons]
    by_cases h1 : st ≤ (runW x a).t
    · rw [if_pos h1, if_pos h1]; rfl
    · rw [if_neg h1, if_neg h1]
      by_cases h2 : sk ≤ (winW (runW x a) a wi).n
      · rw [if_pos h2, if_pos h2]; rfl
      · rw [if_neg h2, if_neg h2, ← ih]
        congr 1
        omega
theorem takeW_ok {st wi sk : Int} {x y : WS} {us : List Int} {k : Nat} (hwi : 2 ≤ wi) (hx : x.ok st wi sk) (h : takeW st wi sk x us k = (y, none)) : y.ok st wi sk := by
  induction us generalizing x k with
  | nil => cases h; exact hx
  | cons a us ih =>
    rw [takeW_cons] at h
    by_cases h1 : st ≤ (runW x a).t
    · rw [if_pos h1] at h; simp at h
    · rw [if_neg h1] at h
      by_cases h2 : sk ≤ (winW (runW x a) a wi).n
      · rw [if_pos h2] at h; simp at h
      · rw [if_neg h2] at h
        obtain ⟨_, r2, r3⟩ := runW_rest x a
        have rt := runW_t x a hx.t0
        obtain ⟨w1, w2, w3, w4, w5⟩ := winW_bd (runW x a) a wi (by rw [r2]; exact hx.n0) (by rw [r3]; exact hx.c0) (by rw [r3]; exact hx.c1) hwi
        exact ih ⟨by omega, by omega, w2, by omega, w4, w5⟩ h
theorem W0_ok {st wi sk : Int} (h1 : 2 ≤ st) (h2 : 2 ≤ wi) (h3 : 2 ≤ sk) : W0.ok st wi sk := ⟨by decide, by show (0 : Int) < st; omega, by decide, by show (0 : Int) < sk; omega, by decide, by show (0 : Int) ≤ wi; omega⟩
/-- 'xy' on a guard that begins anew -/
theorem take_xy {st wi sk : Int} (h1 : 2 ≤ st) (h2 : 2 ≤ wi) (h3 : 2 ≤ sk) : (takeW st wi sk W0 [120, 121] 0).2 = none := by
  have r1 : runW W0 120 = ⟨120, 1, 0, 0, 0⟩ := rfl
  have w1 : winW ⟨120, 1, 0, 0, 0⟩ 120 wi = ⟨120, 1, 120, 1, 1⟩ := by rw [winW_first _ (by show (0 : Int) ≠ wi; omega) rfl]; rfl
  have r2 : runW ⟨120, 1, 120, 1, 1⟩ 121 = ⟨121, 1, 120, 1, 1⟩ := rfl
  have w2 : winW ⟨121, 1, 120, 1, 1⟩ 121 wi = ⟨121, 1, 120, 1, 2⟩ := by rw [winW_else _ (by show (1 : Int) ≠ wi; omega) (by decide) (by decide)]; rfl
  rw [takeW_cons, r1, w1, if_neg (by show ¬ st ≤ 1; omega), if_neg (by show ¬ sk ≤ 1; omega), takeW_cons, r2, w2, if_neg (by show ¬ st ≤ 1; omega), if_neg (by show ¬ sk ≤ 1; omega)]
  rfl
end Go.Proofs.Ytbifmhbkmnofiaa
namespace Go.Proofs.Ytbifmhbkmnofiaa
open Go.RowKit
set_option linter.unusedVariables false
set_option linter.unusedSimpArgs false
theorem take_baaa : takeW 3 5 4 W0 [98, 97, 97, 97] 0 = (⟨97, 3, 98, 1, 3⟩, some (false, 3)) := by rfl
theorem take_long : (takeW 3 5 4 W0 [97, 98, 97, 97, 99, 103, 103, 97, 103, 103] 0).2 = some (true, 9) := by rfl
theorem Byt.row {w : World} {A : Nat} {xs : List Int} {ty : TypeId} {f : Nat × Nat} (h : w.heap[A]? = some (.cells (ints .u8 xs) ty f)) (n c : Nat) (hn : n = xs.length) : Byt w (.slice (some ⟨A, 0, none⟩) n c) xs := by
  subst hn
  refine Or.inr ⟨A, 0, c, rfl, fun j hj => ?_⟩
  rw [cell_of_row _ _ _ _ _ _ h, Nat.zero_add, ints]
  simp [hj]
set_option maxRecDepth 20000 in
set_option maxHeartbeats 2000000 in
theorem guarded_any (w : World) : Calls Try.prog 24 #[] w fun e w' => e = .returned (.bool true) ∧ Below w.heap.size w w' := by
  go_enter Try.func24, Try.ntmps24
  go_wp2_with fail
  refine (begun_any _).mono ?_
  rintro e w1 ⟨rfl, hB1⟩
  have HB1 := hid hB1
  clear hB1
  go_wp2_with fail
  refine (newGuard_yes 3 5 4 _ (by decide)).mono ?_
  rintro e w2 ⟨A, rfl, hA, hG2, hB2⟩
  have HB2 := hid (HB1.out.trans (hB2.mono HB1.out.size))
  have HG2 := hid hG2
  have hA2 : w.heap.size ≤ A := Nat.le_trans HB1.out.size hA
  clear hB2 hG2 HB1
  go_wp2_with fail
  refine (newGuard_yes 3 5 4 _ (by decide)).mono ?_
  rintro e w3 ⟨B, rfl, hB, hG3, hB3⟩
  have hAl := HG2.out.lt
  have HB3 := hid (HB2.out.trans (hB3.mono HB2.out.size))
  have HG3 := hid hG3
  have HA3 : Hd (GdAt w3 A ⟨3, 5, 4, W0, false⟩) := hid (WsAt.other HG2.out (hB3.block A hAl))
  have hB2' : w.heap.size ≤ B := Nat.le_trans HB2.out.size hB
  clear hB3 hG3 HB2 HG2
  have kc := fun (w : World) (C : Array Value) (n c : Nat) => Lib.run_convert_bytes_const (P := Try.prog) w 35 5 C n c Try.underlying35 Try.underlying5
  have hz3 := HG3.out.lt
  have HBy : Hd (Byt (w3.alloc (.cells #[.int .u8 98, .int .u8 97, .int .u8 97, .int .u8 97] 5 (4, 5))) (.slice (some ⟨w3.heap.size, 0, none⟩) 4 4) [98, 97, 97, 97]) := hid (Byt.row (al_new w3 (.cells #[.int .u8 98, .int .u8 97, .int .u8 97, .int .u8 97] 5 (4, 5))) 4 4 rfl)
  have HBx : Hd (Below w3.heap.size w3 (w3.alloc (.cells #[.int .u8 98, .int .u8 97, .int .u8 97, .int .u8 97] 5 (4, 5)))) := hid ((Below.refl _ _).alloc (Nat.le_refl _) _)
  go_wp2_with fail
  generalize w3.alloc (.cells #[.int .u8 98, .int .u8 97, .int .u8 97, .int .u8 97] 5 (4, 5)) = w4 at *
  have HA4 : GdAt w4 A ⟨3, 5, 4, W0, false⟩ := WsAt.other HA3.out (HBx.out.block A HA3.out.lt)
  have hA3l := HA3.out.lt
  refine (gfeed_take ⟨3, 5, 4, W0, false⟩ A _ [98, 97, 97, 97] w4 HA4 rfl HBy.out (fun ad n c h _ => by simp at h; rw [← h.1]; simp; omega) (by decide) (W0_ok (by decide) (by decide) (by decide)) (by decide) (by decide) (by decide) (by decide)).mono ?_
  have he1 : fedG ⟨3, 5, 4, W0, false⟩ [98, 97, 97, 97] = (3, 4, ⟨3, 5, 4, W0, true⟩) := by rfl
  rw [he1]
  rintro e w5 ⟨rfl, hG5, hE5⟩
  have HE5 := hid hE5
  have HG5 : Hd (GdAt w5 B ⟨3, 5, 4, W0, false⟩) := hid (WsAt.other (WsAt.other HG3.out (HBx.out.block B HG3.out.lt)) (hE5.block B (by have := HBx.out.size; omega) (by omega)))
  have HB5 := hid (HB3.out.trans (HBx.out.mono HB3.out.size))
  have hz5 := HG5.out.lt
  clear hE5 HA3 HG3 HA4 HBy HBx HB3
  dsimp only
  have HBy : Hd (Byt (w5.alloc (.cells #[.int .u8 97, .int .u8 98, .int .u8 97, .int .u8 97, .int .u8 99, .int .u8 103, .int .u8 103, .int .u8 97, .int .u8 103, .int .u8 103] 5 (10, 11))) (.slice (some ⟨w5.heap.size, 0, none⟩) 10 10) [97, 98, 97, 97, 99, 103, 103, 97, 103, 103]) := hid (Byt.row (al_new w5 (.cells #[.int .u8 97, .int .u8 98, .int .u8 97, .int .u8 97, .int .u8 99, .int .u8 103, .int .u8 103, .int .u8 97, .int .u8 103, .int .u8 103] 5 (10, 11))) 10 10 rfl)
  have HBx : Hd (Below w5.heap.size w5 (w5.alloc (.cells #[.int .u8 97, .int .u8 98, .int .u8 97, .int .u8 97, .int .u8 99, .int .u8 103, .int .u8 103, .int .u8 97, .int .u8 103, .int .u8 103] 5 (10, 11)))) := hid ((Below.refl _ _).alloc (Nat.le_refl _) _)
  go_wp2_with fail
  generalize w5.alloc (.cells #[.int .u8 97, .int .u8 98, .int .u8 97, .int .u8 97, .int .u8 99, .int .u8 103, .int .u8 103, .int .u8 97, .int .u8 103, .int .u8 103] 5 (10, 11)) = w6 at *
  have HA6 : GdAt w6 B ⟨3, 5, 4, W0, false⟩ := WsAt.other HG5.out (HBx.out.block B HG5.out.lt)
  refine (gfeed_take ⟨3, 5, 4, W0, false⟩ B _ [97, 98, 97, 97, 99, 103, 103, 97, 103, 103] w6 HA6 rfl HBy.out (fun ad n c h _ => by simp at h; rw [← h.1]; simp; omega) (by decide) (W0_ok (by decide) (by decide) (by decide)) (by decide) (by decide) (by decide) (by decide)).mono ?_
  have he2 : fedG ⟨3, 5, 4, W0, false⟩ [97, 98, 97, 97, 99, 103, 103, 97, 103, 103] = (9, 5, ⟨3, 5, 4, W0, true⟩) := by rfl
  rw [he2]
  rintro e w7 ⟨rfl, hG7, hE7⟩
  have HE7 := hid hE7
  clear hE7 hG7 HBy
  dsimp only
  go_wp2
  go_ret
  refine ⟨rfl, ?_⟩
  have k1 := HB5.out.trans (HE5.out.below hA2 HB5.out.size)
  have k2 := k1.trans (HBx.out.mono k1.size)
  exact k2.trans (HE7.out.below hB2' k2.size)
end Go.Proofs.Ytbifmhbkmnofiaa
namespace Go.Proofs.Ytbifmhbkmnofiaa
open Go.RowKit
set_option linter.unusedVariables false
set_option linter.unusedSimpArgs false
theorem cut3 (xs : List Int) (p n : Nat) (h : p + n ≤ xs.length) : xs = xs.take p ++ (((xs.drop p).take n) ++ xs.drop (p + n)) := by
  rw [← List.drop_drop, List.take_append_drop, List.take_append_drop]
theorem take_next (xs : List Int) (p n : Nat) : xs.take (p + n) = xs.take p ++ (xs.drop p).take n := by rw [List.take_add]
/-- a piece with which nothing is wrong: the first fault of all lies behind it -/
theorem piece_none {st wi sk : Int} {xs : List Int} {p n : Nat} {y z : WS} (hl : p + n ≤ xs.length) (h1 : takeW st wi sk W0 (xs.take p) 0 = (y, none)) (h2 : takeW st wi sk y ((xs.drop p).take n) 0 = (z, none)) :
    takeW st wi sk W0 (xs.take (p + n)) 0 = (z, none) ∧ (∀ f q, (takeW st wi sk W0 xs 0).2 = some (f, q) → p + n ≤ q) := by
  have hp : (xs.take p).length = p := by rw [List.length_take]; omega
  have hn : ((xs.drop p).take n).length = n := by rw [List.length_take, List.length_drop]; omega
  have h3 : takeW st wi sk y ((xs.drop p).take n) p = (z, none) := by
    have := takeW_shift st wi sk y ((xs.drop p).take n) 0 p
    rw [Nat.zero_add, h2] at this
    exact this
  have h4 : takeW st wi sk W0 (xs.take (p + n)) 0 = (z, none) := by
    rw [take_next, takeW_none h1, Nat.zero_add, hp]
    exact h3
  refine ⟨h4, fun f q hq => ?_⟩
  have h5 : takeW st wi sk W0 xs 0 = takeW st wi sk z (xs.drop (p + n)) (p + n) := by
    have := takeW_none h4 (xs.drop (p + n))
    rw [List.take_append_drop, Nat.zero_add, List.length_take, Nat.min_eq_left hl] at this
    exact this
  rw [h5] at hq
  exact (takeW_lt (y := (takeW st wi sk z (xs.drop (p + n)) (p + n)).1) (f := f) (Prod.ext rfl hq)).1
/-- a piece with a fault: it is the first of all -/
theorem piece_some {st wi sk : Int} {xs : List Int} {p n q : Nat} {y z : WS} {f : Bool} (hl : p + n ≤ xs.length) (h1 : takeW st wi sk W0 (xs.take p) 0 = (y, none)) (h2 : takeW st wi sk y ((xs.drop p).take n) 0 = (z, some (f, q))) :
    (takeW st wi sk W0 xs 0).2 = some (f, q + p) ∧ q < n := by
  have hp : (xs.take p).length = p := by rw [List.length_take]; omega
  have hn : ((xs.drop p).take n).length = n := by rw [List.length_take, List.length_drop]; omega
  have hq := (takeW_lt h2).2
  rw [hn, Nat.zero_add] at hq
  refine ⟨?_, hq⟩
  have h3 : takeW st wi sk y ((xs.drop p).take n) p = (z, some (f, q + p)) := by
    have := takeW_shift st wi sk y ((xs.drop p).take n) 0 p
    rw [Nat.zero_add, h2] at this
    exact this
  have h4 : takeW st wi sk W0 (xs.take (p + n)) 0 = (z, some (f, q + p)) := by
    rw [take_next, takeW_none h1, Nat.zero_add, hp]
    exact h3
  have := takeW_some h4 (xs.drop (p + n))
  rw [List.take_append_drop] at this
  rw [this]
end Go.Proofs.Ytbifmhbkmnofiaa
namespace Go.Proofs.Ytbifmhbkmnofiaa
open Go.RowKit
set_option linter.unusedVariables false
set_option linter.unusedSimpArgs false
theorem wrongV_form (n : Nat) (R : Option (Bool × Nat)) : ∃ (pl : Nat) (cd : Int), wrongV n R = .tuple #[.int .i64 pl, .int .i64 cd] ∧ (∀ f q, R = some (f, q) → pl = q ∧ cd = if f then 5 else 4) ∧ (R = none → pl = n ∧ cd = 0) := by
  rcases R with _ | ⟨f, q⟩
  · exact ⟨n, 0, rfl, fun f q h => by simp at h, fun _ => ⟨rfl, rfl⟩⟩
  · cases f
    · exact ⟨q, 4, rfl, fun f q h => by simp at h; obtain ⟨rfl, rfl⟩ := h; simp, fun h => by simp at h⟩
    · exact ⟨q, 5, rfl, fun f q h => by simp at h; obtain ⟨rfl, rfl⟩ := h; simp, fun h => by simp at h⟩
set_option maxRecDepth 20000 in
set_option maxHeartbeats 2000000 in
theorem guarded_walk (a b c : Int) (s : ByteArray) (vc : Value) (zs : List Int) (w : World) (hs : s.size ≤ 9223372036854775807) (hc : SlV w vc (zs.map (Value.int .i64)))
    (hz : ∀ z ∈ zs, -9223372036854775808 ≤ z ∧ z ≤ 9223372036854775807) (hzl : zs.length ≤ 9223372036854775806) 
    (ha : -9223372036854775808 ≤ a) (ha' : a ≤ 9223372036854775807) (hb : -9223372036854775808 ≤ b) (hb' : b ≤ 9223372036854775807) (hcc : -9223372036854775808 ≤ c) (hcc' : c ≤ 9223372036854775807) :
    Calls Try.prog 8 #[.int .i64 a, .int .i64 b, .int .i64 c, .string s, vc] w fun e w' => e = .returned (.bool true) ∧ Below w.heap.size w w' := by
  obtain ⟨ac, capc, rfl, hc⟩ := hc
  rw [List.length_map] at hc
  have Hc := hid hc
  have Hz := hid hz
  clear hc hz
  simp only [List.length_map]
  go_enter Try.func8, Try.ntmps8
  go_wp2_with fail
  refine (guarded_any _).mono ?_
  rintro e w1 ⟨rfl, hB1⟩
  have HB1 := hid hB1
  clear hB1
  go_wp2_with fail
  refine (kwatch_any a b c _ ha ha' hb hb' hcc hcc').mono ?_
  rintro e w2 ⟨rfl, hB2⟩
  have HB2 := hid (HB1.out.trans (hB2.mono HB1.out.size))
  clear hB2 HB1
  obtain ⟨p0, p1⟩ := pickI_bd a 49 (by decide)
  obtain ⟨q0, q1⟩ := pickI_bd b 49 (by decide)
  obtain ⟨r0, r1⟩ := pickI_bd c (2 + pickI b 49 - 1) (by omega)
  generalize pickI c (2 + pickI b 49 - 1) = r at *
  generalize pickI a 49 = p at *
  generalize pickI b 49 = q at *
  obtain ⟨st, hst⟩ : ∃ st, 2 + p = st := ⟨_, rfl⟩
  obtain ⟨W, hW⟩ : ∃ W : Nat, 2 + q = (W : Int) := ⟨(2 + q).toNat, by omega⟩
  obtain ⟨sk, hsk⟩ : ∃ sk, 2 + r = sk := ⟨_, rfl⟩
  rw [hst, hW, hsk]
  have h1 : 2 ≤ st := by omega
  have h2 : st ≤ 50 := by omega
  have h3 : 2 ≤ W := by omega
  have h4 : W ≤ 50 := by omega
  have h5 : 2 ≤ sk := by omega
  have h6 : sk ≤ W := by omega
  clear hst hW hsk p0 p1 q0 q1 r0 r1
  go_wp2_with fail
  have HW2 : Hd ((w2.alloc (.cells #[.int .i64 st, .int .i64 W, .int .i64 sk] 51)).heap[w2.heap.size]? = some (.cells #[.int .i64 st, .int .i64 W, .int .i64 sk] 51 (0, 0))) := hid (al_new _ _)
  have HB3 := hid (HB2.out.alloc HB2.out.size (.cells #[.int .i64 st, .int .i64 W, .int .i64 sk] 51))
  have hz2 := al_size w2 (.cells #[.int .i64 st, .int .i64 W, .int .i64 sk] 51)
  generalize w2.alloc (.cells #[.int .i64 st, .int .i64 W, .int .i64 sk] 51) = w3 at *
  refine (newGuard_yes st W sk _ ⟨h1, h2, by omega, by omega, h5, h6⟩).mono ?_
  rintro e w4 ⟨A, rfl, hA, hG4, hB4⟩
  have HG4 := hid hG4
  have HW4 := hid ((hB4.block w2.heap.size (by omega)).trans HW2.out)
  have HB4 := hid (HB3.out.trans (hB4.mono HB3.out.size))
  have hAw : w.heap.size ≤ A := Nat.le_trans HB3.out.size hA
  have hAl := hG4.lt
  have hAne : w2.heap.size ≠ A := by omega
  generalize w2.heap.size = L at *
  clear hG4 hB4 HB3 HB2 HW2 hz2
  have cS := cell_of_row _ _ 0 _ _ _ HW4.out
  have cW := cell_of_row _ _ 1 _ _ _ HW4.out
  have cK := cell_of_row _ _ 2 _ _ _ HW4.out
  simp only [List.getElem?_toArray, List.getElem?_cons_zero, List.getElem?_cons_succ] at cS cW cK
  go_wp2_with fail
  refine (short_any s 400 _ (by omega) hs).mono ?_
  rintro e w' ⟨rfl, rfl⟩
  have hss := (cut_size s 400).1
  clear hs
  generalize cut s 400 = s at *
  go_wp2_with fail
  refine (wrong_any st sk W s _ h1 h2 h3 h4 h5 (by omega) (by omega)).mono ?_
  rintro e w5 ⟨rfl, hB5⟩
  obtain ⟨pl, cd, hv, hyes, hno⟩ := wrongV_form s.size (takeW st W sk W0 (bts s) 0).2
  rw [hv]
  have Hyes := hid hyes
  have Hno := hid hno
  have HG5 : Hd (GdAt w5 A ⟨st, W, sk, W0, false⟩) := hid (WsAt.other HG4.out (hB5.block A hAl))
  have HB5 := hid (HB4.out.trans (hB5.mono HB4.out.size))
  clear hv hyes hno hB5 HB4 HG4 HW4 cS cW cK
  have hbl := bts_len s
  go_wp2
  go_loopw [18, 19] (fun at_ i wr => ∃ (p k : Nat) (y : WS), p ≤ s.size ∧ k ≤ zs.length + 1 ∧ at_ = .int .i64 p ∧ i = .int .i64 k ∧ takeW st W sk W0 ((bts s).take p) 0 = (y, none) ∧ GdAt wr A ⟨st, W, sk, y, false⟩ ∧ Below w.heap.size w wr) (fun _ i _ => zs.length + 1 - (intOf i).toNat)
  case atStart => exact ⟨0, 0, W0, by omega, by omega, rfl, rfl, rfl, HG5.out, HB5.out⟩
  case round =>
    clear HG5 HB5
    obtain ⟨p, k, y, hp, hk, rfl, rfl, htk, hG, hB⟩ := hrel
    have Htk := hid htk
    have HG := hid hG
    have HB := hid hB
    clear htk hG hB
    by_cases hk1 : k ≤ zs.length
    · have hk1' : (k : Int) ≤ zs.length := by omega
      by_cases hps : p < s.size
      · have hps' : (p : Int) < s.size := by omega
        obtain ⟨mn, hmn⟩ : ∃ mn : Nat, min ((s.size : Int) - p) 200 = (mn : Int) := ⟨(min ((s.size : Int) - p) 200).toNat, by omega⟩
        have hmn1 : p + mn ≤ s.size := by omega
        have hmn2 : mn ≤ 200 := by omega
        by_cases hcut : k < zs.length ∧ k < 50
        · obtain ⟨hlt1, hlt2⟩ := hcut
          obtain ⟨db, off, rfl, hcell⟩ := Hc.out (by omega)
          have c1 := hcell k (.int .i64 zs[k]) (by simp [List.getElem?_eq_getElem hlt1])
          have c2 : wr.cell? ⟨db, off + k, none⟩ = some (.int .i64 zs[k]) := by
            rw [HB.out.cell (World.block_lt_of_cell? w _ c1)]; exact c1
          clear hcell c1
          obtain ⟨hz0, hz1⟩ := Hz.out _ (List.getElem_mem hlt1)
          generalize zs[k] = z at *
          have hlt1' : (k : Int) < zs.length := by omega
          have hlt2' : (k : Int) < 50 := by omega
          go_wp2_with fail
          have hpb := pickI_bd z ((mn : Int) + 1) (by omega)
          refine (pick_any z _ _ hz0 hz1 (by omega) (by omega)).mono ?_
          rintro e w'' ⟨rfl, rfl⟩
          generalize pickI z ((mn : Int) + 1) = r at *
          obtain ⟨n, rfl⟩ := Int.eq_ofNat_of_zero_le hpb.1
          have hpn : p + n ≤ s.size := by omega
          have hpn' : (p : Int) + n ≤ s.size := by omega
          have hn2 : n ≤ 200 := by omega
          clear hpb hmn c2
          go_wp2_with (refine wpList_bytes rfl _ rfl (s.extract p (p + n)) rfl ?_; intro w6 cap6 hB6 hz6 hb6)
          have e1 : (s.extract p (p + n)).size = n := by rw [ByteArray.size_extract]; omega
          have hb7 : Byt w6 (.slice (some ⟨w''.heap.size, 0, none⟩) n cap6) (((bts s).drop p).take n) := by
            have h := hb6.out
            rw [bts_mid s p n (by omega), e1] at h
            exact h
          have hl7 : (((bts s).drop p).take n).length = n := by rw [List.length_take, List.length_drop, bts_len]; omega
          have hGl := HG.out.lt
          have HA6 : GdAt w6 A ⟨st, W, sk, y, false⟩ := WsAt.other HG.out (hB6.block A hGl)
          have hyok := takeW_ok (show (2 : Int) ≤ W by omega) (W0_ok h1 (by omega) h5) Htk.out
          have HB6 := hid (HB.out.trans (hB6.mono HB.out.size))
          refine (gfeed_take ⟨st, W, sk, y, false⟩ A _ (((bts s).drop p).take n) w6 HA6 rfl hb7 (fun ad m c h _ => by simp at h; rw [← h.1]; simp; omega) (by omega) hyok h2 (by show (2 : Int) ≤ W; omega) (by show (W : Int) ≤ 50; omega) (by show sk ≤ 50; omega)).mono ?_
          rintro e w7 ⟨rfl, hG7, hE7⟩
          have HB7 := hid (HB6.out.trans (hE7.below hAw HB6.out.size))
          clear hE7 HB6 HA6 HB HG hb7 hb6 hB6 hyok
          rcases hT : takeW st W sk y (((bts s).drop p).take n) 0 with ⟨z, _ | ⟨f, q⟩⟩
          · have he : fedG ⟨st, W, sk, y, false⟩ (((bts s).drop p).take n) = ((n : Int), 0, ⟨st, W, sk, z, false⟩) := by
              unfold fedG; dsimp only; rw [hT]; simp [hl7]
            rw [he] at hG7 ⊢
            obtain ⟨k1, k2⟩ := piece_none (by rw [hbl]; omega) Htk.out hT
            have hpl : p + n ≤ pl := by
              cases hR : (takeW st W sk W0 (bts s) 0).2 with
              | none => rw [(Hno.out hR).1]; omega
              | some fq =>
                obtain ⟨f, q⟩ := fq
                rw [(Hyes.out f q hR).1]
                exact k2 f q hR
            have hpl' : ¬ (pl : Int) < (p : Int) + n := by omega
            have K1 := hid k1
            have HG7 := hid hG7
            clear k1 k2 hG7 he hT hl7 Htk
            dsimp only
            go_wp2
            exact ⟨⟨p + n, k + 1, z, by omega, by omega, by go_num, by go_num, K1.out, HG7.out, HB7.out⟩, by simp [intOf]; omega⟩
          · have he : fedG ⟨st, W, sk, y, false⟩ (((bts s).drop p).take n) = ((q : Int), (if f then 5 else 4), ⟨st, W, sk, W0, true⟩) := by
              unfold fedG; dsimp only; rw [hT]; cases f <;> rfl
            obtain ⟨k1, k2⟩ := piece_some (by rw [hbl]; omega) Htk.out hT
            obtain ⟨hpq, hcd⟩ := Hyes.out f (q + p) k1
            rw [he, ← hcd] at hG7
            rw [he, ← hcd]
            have hpl' : (pl : Int) < (p : Int) + n := by omega
            have hpl2 : (pl : Int) - (p : Int) = q := by omega
            have HG7 := hid hG7
            have hG7l := hG7.lt
            clear k1 hG7 he hT hl7 Htk hcd Hyes Hno
            dsimp only
            have kc := fun (w : World) (C : Array Value) (n c : Nat) => Lib.run_convert_bytes_const (P := Try.prog) w 35 5 C n c Try.underlying35 Try.underlying5
            go_wp2_with fail
            have HB8 := hid (HB7.out.alloc HB7.out.size (.cells #[.int .u8 120] 5 (1, 2)))
            have HG8 : Hd (GdAt (w7.alloc (.cells #[.int .u8 120] 5 (1, 2))) A ⟨st, W, sk, W0, true⟩) := hid (WsAt.other HG7.out (((Below.refl w7.heap.size w7).alloc (Nat.le_refl _) _).block A hG7l))
            refine (gfeed_dead _ A _ _ _ _ HG8.out rfl).mono ?_
            rintro e w8 ⟨rfl, rfl⟩
            generalize w7.alloc (.cells #[.int .u8 120] 5 (1, 2)) = w8 at *
            go_wp2_with fail
            refine (greset_any _ A _ HG8.out).mono ?_
            rintro e w9 ⟨rfl, hG9, hE9⟩
            have HG9 := hid hG9
            have hG9l := hG9.lt
            have HG9l := hid hG9l
            have HB9 := hid (HB8.out.trans (hE9.below hAw HB8.out.size))
            clear hG9 hE9 HB8 HG8 HB7 HG7
            dsimp only at HG9
            go_wp2_with fail
            have HB10 := hid (HB9.out.alloc HB9.out.size (.cells #[.int .u8 120, .int .u8 121] 5 (2, 3)))
            have HG10 : Hd (GdAt (w9.alloc (.cells #[.int .u8 120, .int .u8 121] 5 (2, 3))) A ⟨st, W, sk, W0, false⟩) := hid (WsAt.other HG9.out (((Below.refl w9.heap.size w9).alloc (Nat.le_refl _) _).block A hG9l))
            have HBy : Hd (Byt (w9.alloc (.cells #[.int .u8 120, .int .u8 121] 5 (2, 3))) (.slice (some ⟨w9.heap.size, 0, none⟩) 2 2) [120, 121]) := hid (Byt.row (al_new w9 (.cells #[.int .u8 120, .int .u8 121] 5 (2, 3))) 2 2 rfl)
            generalize w9.alloc (.cells #[.int .u8 120, .int .u8 121] 5 (2, 3)) = w10 at *
            refine (gfeed_take ⟨st, W, sk, W0, false⟩ A _ [120, 121] w10 HG10.out rfl HBy.out (fun ad m c h _ => by simp at h; rw [← h.1]; exact Nat.ne_of_gt HG9l.out) (by decide) (W0_ok h1 (show (2 : Int) ≤ W by omega) h5) h2 (by show (2 : Int) ≤ W; omega) (by show (W : Int) ≤ 50; omega) (by show sk ≤ 50; omega)).mono ?_
            rintro e w11 ⟨rfl, hG11, hE11⟩
            have HB11 := hid (HB10.out.trans (hE11.below hAw HB10.out.size))
            have hxy := take_xy h1 (show (2 : Int) ≤ W by omega) h5
            have hf1 : (fedG ⟨st, W, sk, W0, false⟩ [120, 121]).1 = 2 ∧ (fedG ⟨st, W, sk, W0, false⟩ [120, 121]).2.1 = 0 := by
              unfold fedG
              dsimp only
              rcases hq : takeW st W sk W0 [120, 121] 0 with ⟨yy, ff⟩
              rw [hq] at hxy
              dsimp only at hxy
              subst hxy
              exact ⟨rfl, rfl⟩
            rw [hf1.1, hf1.2]
            clear hG11 hE11 HB10 HG10 HBy hxy hf1 HB9 HG9
            go_wp2
            go_ret
            exact ⟨rfl, HB11.out⟩
        · have hcut' : ¬ ((k : Int) < zs.length) ∨ ¬ ((k : Int) < 50) := by omega
          obtain ⟨n, rfl⟩ : ∃ n, mn = n := ⟨_, rfl⟩
          have hpn' : (p : Int) + mn ≤ s.size := by omega
          rcases hcut' with h | h
          · go_wp2_with (refine wpList_bytes rfl _ rfl (s.extract p (p + mn)) rfl ?_; intro w6 cap6 hB6 hz6 hb6)
            have e1 : (s.extract p (p + mn)).size = mn := by rw [ByteArray.size_extract]; omega
            have hb7 : Byt w6 (.slice (some ⟨wr.heap.size, 0, none⟩) mn cap6) (((bts s).drop p).take mn) := by
              have h := hb6.out
              rw [bts_mid s p mn (by omega), e1] at h
              exact h
            have hl7 : (((bts s).drop p).take mn).length = mn := by rw [List.length_take, List.length_drop, bts_len]; omega
            have hGl := HG.out.lt
            have HA6 : GdAt w6 A ⟨st, W, sk, y, false⟩ := WsAt.other HG.out (hB6.block A hGl)
            have hyok := takeW_ok (show (2 : Int) ≤ W by omega) (W0_ok h1 (by omega) h5) Htk.out
            have HB6 := hid (HB.out.trans (hB6.mono HB.out.size))
            refine (gfeed_take ⟨st, W, sk, y, false⟩ A _ (((bts s).drop p).take mn) w6 HA6 rfl hb7 (fun ad m c h _ => by simp at h; rw [← h.1]; simp; omega) (by omega) hyok h2 (by show (2 : Int) ≤ W; omega) (by show (W : Int) ≤ 50; omega) (by show sk ≤ 50; omega)).mono ?_
            rintro e w7 ⟨rfl, hG7, hE7⟩
            have HB7 := hid (HB6.out.trans (hE7.below hAw HB6.out.size))
            clear hE7 HB6 HA6 HB HG hb7 hb6 hB6 hyok
            rcases hT : takeW st W sk y (((bts s).drop p).take mn) 0 with ⟨z, _ | ⟨f, q⟩⟩
            · have he : fedG ⟨st, W, sk, y, false⟩ (((bts s).drop p).take mn) = ((mn : Int), 0, ⟨st, W, sk, z, false⟩) := by
                unfold fedG; dsimp only; rw [hT]; simp [hl7]
              rw [he] at hG7 ⊢
              obtain ⟨k1, k2⟩ := piece_none (by rw [hbl]; omega) Htk.out hT
              have hpl : p + mn ≤ pl := by
                cases hR : (takeW st W sk W0 (bts s) 0).2 with
                | none => rw [(Hno.out hR).1]; omega
                | some fq =>
                  obtain ⟨f, q⟩ := fq
                  rw [(Hyes.out f q hR).1]
                  exact k2 f q hR
              have hpl' : ¬ (pl : Int) < (p : Int) + mn := by omega
              have K1 := hid k1
              have HG7 := hid hG7
              clear k1 k2 hG7 he hT hl7 Htk
              dsimp only
              go_wp2
              exact ⟨⟨p + mn, k + 1, z, by omega, by omega, by go_num, by go_num, K1.out, HG7.out, HB7.out⟩, by simp [intOf]; omega⟩
            · have he : fedG ⟨st, W, sk, y, false⟩ (((bts s).drop p).take mn) = ((q : Int), (if f then 5 else 4), ⟨st, W, sk, W0, true⟩) := by
                unfold fedG; dsimp only; rw [hT]; cases f <;> rfl
              obtain ⟨k1, k2⟩ := piece_some (by rw [hbl]; omega) Htk.out hT
              obtain ⟨hpq, hcd⟩ := Hyes.out f (q + p) k1
              rw [he, ← hcd] at hG7
              rw [he, ← hcd]
              have hpl' : (pl : Int) < (p : Int) + mn := by omega
              have hpl2 : (pl : Int) - (p : Int) = q := by omega
              have HG7 := hid hG7
              have hG7l := hG7.lt
              clear k1 hG7 he hT hl7 Htk hcd Hyes Hno
              dsimp only
              have kc := fun (w : World) (C : Array Value) (n c : Nat) => Lib.run_convert_bytes_const (P := Try.prog) w 35 5 C n c Try.underlying35 Try.underlying5
              go_wp2_with fail
              have HB8 := hid (HB7.out.alloc HB7.out.size (.cells #[.int .u8 120] 5 (1, 2)))
              have HG8 : Hd (GdAt (w7.alloc (.cells #[.int .u8 120] 5 (1, 2))) A ⟨st, W, sk, W0, true⟩) := hid (WsAt.other HG7.out (((Below.refl w7.heap.size w7).alloc (Nat.le_refl _) _).block A hG7l))
              refine (gfeed_dead _ A _ _ _ _ HG8.out rfl).mono ?_
              rintro e w8 ⟨rfl, rfl⟩
              generalize w7.alloc (.cells #[.int .u8 120] 5 (1, 2)) = w8 at *
              go_wp2_with fail
              refine (greset_any _ A _ HG8.out).mono ?_
              rintro e w9 ⟨rfl, hG9, hE9⟩
              have HG9 := hid hG9
              have hG9l := hG9.lt
              have HG9l := hid hG9l
              have HB9 := hid (HB8.out.trans (hE9.below hAw HB8.out.size))
              clear hG9 hE9 HB8 HG8 HB7 HG7
              dsimp only at HG9
              go_wp2_with fail
              have HB10 := hid (HB9.out.alloc HB9.out.size (.cells #[.int .u8 120, .int .u8 121] 5 (2, 3)))
              have HG10 : Hd (GdAt (w9.alloc (.cells #[.int .u8 120, .int .u8 121] 5 (2, 3))) A ⟨st, W, sk, W0, false⟩) := hid (WsAt.other HG9.out (((Below.refl w9.heap.size w9).alloc (Nat.le_refl _) _).block A hG9l))
              have HBy : Hd (Byt (w9.alloc (.cells #[.int .u8 120, .int .u8 121] 5 (2, 3))) (.slice (some ⟨w9.heap.size, 0, none⟩) 2 2) [120, 121]) := hid (Byt.row (al_new w9 (.cells #[.int .u8 120, .int .u8 121] 5 (2, 3))) 2 2 rfl)
              generalize w9.alloc (.cells #[.int .u8 120, .int .u8 121] 5 (2, 3)) = w10 at *
              refine (gfeed_take ⟨st, W, sk, W0, false⟩ A _ [120, 121] w10 HG10.out rfl HBy.out (fun ad m c h _ => by simp at h; rw [← h.1]; exact Nat.ne_of_gt HG9l.out) (by decide) (W0_ok h1 (show (2 : Int) ≤ W by omega) h5) h2 (by show (2 : Int) ≤ W; omega) (by show (W : Int) ≤ 50; omega) (by show sk ≤ 50; omega)).mono ?_
              rintro e w11 ⟨rfl, hG11, hE11⟩
              have HB11 := hid (HB10.out.trans (hE11.below hAw HB10.out.size))
              have hxy := take_xy h1 (show (2 : Int) ≤ W by omega) h5
              have hf1 : (fedG ⟨st, W, sk, W0, false⟩ [120, 121]).1 = 2 ∧ (fedG ⟨st, W, sk, W0, false⟩ [120, 121]).2.1 = 0 := by
                unfold fedG
                dsimp only
                rcases hq : takeW st W sk W0 [120, 121] 0 with ⟨yy, ff⟩
                rw [hq] at hxy
                dsimp only at hxy
                subst hxy
                exact ⟨rfl, rfl⟩
              rw [hf1.1, hf1.2]
              clear hG11 hE11 HB10 HG10 HBy hxy hf1 HB9 HG9
              go_wp2
              go_ret
              exact ⟨rfl, HB11.out⟩
          · by_cases h' : (k : Int) < zs.length
            · go_wp2_with (refine wpList_bytes rfl _ rfl (s.extract p (p + mn)) rfl ?_; intro w6 cap6 hB6 hz6 hb6)
              have e1 : (s.extract p (p + mn)).size = mn := by rw [ByteArray.size_extract]; omega
              have hb7 : Byt w6 (.slice (some ⟨wr.heap.size, 0, none⟩) mn cap6) (((bts s).drop p).take mn) := by
                have h := hb6.out
                rw [bts_mid s p mn (by omega), e1] at h
                exact h
              have hl7 : (((bts s).drop p).take mn).length = mn := by rw [List.length_take, List.length_drop, bts_len]; omega
              have hGl := HG.out.lt
              have HA6 : GdAt w6 A ⟨st, W, sk, y, false⟩ := WsAt.other HG.out (hB6.block A hGl)
              have hyok := takeW_ok (show (2 : Int) ≤ W by omega) (W0_ok h1 (by omega) h5) Htk.out
              have HB6 := hid (HB.out.trans (hB6.mono HB.out.size))
              refine (gfeed_take ⟨st, W, sk, y, false⟩ A _ (((bts s).drop p).take mn) w6 HA6 rfl hb7 (fun ad m c h _ => by simp at h; rw [← h.1]; simp; omega) (by omega) hyok h2 (by show (2 : Int) ≤ W; omega) (by show (W : Int) ≤ 50; omega) (by show sk ≤ 50; omega)).mono ?_
              rintro e w7 ⟨rfl, hG7, hE7⟩
              have HB7 := hid (HB6.out.trans (hE7.below hAw HB6.out.size))
              clear hE7 HB6 HA6 HB HG hb7 hb6 hB6 hyok
              rcases hT : takeW st W sk y (((bts s).drop p).take mn) 0 with ⟨z, _ | ⟨f, q⟩⟩
              · have he : fedG ⟨st, W, sk, y, false⟩ (((bts s).drop p).take mn) = ((mn : Int), 0, ⟨st, W, sk, z, false⟩) := by
                  unfold fedG; dsimp only; rw [hT]; simp [hl7]
                rw [he] at hG7 ⊢
                obtain ⟨k1, k2⟩ := piece_none (by rw [hbl]; omega) Htk.out hT
                have hpl : p + mn ≤ pl := by
                  cases hR : (takeW st W sk W0 (bts s) 0).2 with
                  | none => rw [(Hno.out hR).1]; omega
                  | some fq =>
                    obtain ⟨f, q⟩ := fq
                    rw [(Hyes.out f q hR).1]
                    exact k2 f q hR
                have hpl' : ¬ (pl : Int) < (p : Int) + mn := by omega
                have K1 := hid k1
                have HG7 := hid hG7
                clear k1 k2 hG7 he hT hl7 Htk
                dsimp only
                go_wp2
                exact ⟨⟨p + mn, k + 1, z, by omega, by omega, by go_num, by go_num, K1.out, HG7.out, HB7.out⟩, by simp [intOf]; omega⟩
              · have he : fedG ⟨st, W, sk, y, false⟩ (((bts s).drop p).take mn) = ((q : Int), (if f then 5 else 4), ⟨st, W, sk, W0, true⟩) := by
                  unfold fedG; dsimp only; rw [hT]; cases f <;> rfl
                obtain ⟨k1, k2⟩ := piece_some (by rw [hbl]; omega) Htk.out hT
                obtain ⟨hpq, hcd⟩ := Hyes.out f (q + p) k1
                rw [he, ← hcd] at hG7
                rw [he, ← hcd]
                have hpl' : (pl : Int) < (p : Int) + mn := by omega
                have hpl2 : (pl : Int) - (p : Int) = q := by omega
                have HG7 := hid hG7
                have hG7l := hG7.lt
                clear k1 hG7 he hT hl7 Htk hcd Hyes Hno
                dsimp only
                have kc := fun (w : World) (C : Array Value) (n c : Nat) => Lib.run_convert_bytes_const (P := Try.prog) w 35 5 C n c Try.underlying35 Try.underlying5
                go_wp2_with fail
                have HB8 := hid (HB7.out.alloc HB7.out.size (.cells #[.int .u8 120] 5 (1, 2)))
                have HG8 : Hd (GdAt (w7.alloc (.cells #[.int .u8 120] 5 (1, 2))) A ⟨st, W, sk, W0, true⟩) := hid (WsAt.other HG7.out (((Below.refl w7.heap.size w7).alloc (Nat.le_refl _) _).block A hG7l))
                refine (gfeed_dead _ A _ _ _ _ HG8.out rfl).mono ?_
                rintro e w8 ⟨rfl, rfl⟩
                generalize w7.alloc (.cells #[.int .u8 120] 5 (1, 2)) = w8 at *
                go_wp2_with fail
                refine (greset_any _ A _ HG8.out).mono ?_
                rintro e w9 ⟨rfl, hG9, hE9⟩
                have HG9 := hid hG9
                have hG9l := hG9.lt
                have HG9l := hid hG9l
                have HB9 := hid (HB8.out.trans (hE9.below hAw HB8.out.size))
                clear hG9 hE9 HB8 HG8 HB7 HG7
                dsimp only at HG9
                go_wp2_with fail
                have HB10 := hid (HB9.out.alloc HB9.out.size (.cells #[.int .u8 120, .int .u8 121] 5 (2, 3)))
                have HG10 : Hd (GdAt (w9.alloc (.cells #[.int .u8 120, .int .u8 121] 5 (2, 3))) A ⟨st, W, sk, W0, false⟩) := hid (WsAt.other HG9.out (((Below.refl w9.heap.size w9).alloc (Nat.le_refl _) _).block A hG9l))
                have HBy : Hd (Byt (w9.alloc (.cells #[.int .u8 120, .int .u8 121] 5 (2, 3))) (.slice (some ⟨w9.heap.size, 0, none⟩) 2 2) [120, 121]) := hid (Byt.row (al_new w9 (.cells #[.int .u8 120, .int .u8 121] 5 (2, 3))) 2 2 rfl)
                generalize w9.alloc (.cells #[.int .u8 120, .int .u8 121] 5 (2, 3)) = w10 at *
                refine (gfeed_take ⟨st, W, sk, W0, false⟩ A _ [120, 121] w10 HG10.out rfl HBy.out (fun ad m c h _ => by simp at h; rw [← h.1]; exact Nat.ne_of_gt HG9l.out) (by decide) (W0_ok h1 (show (2 : Int) ≤ W by omega) h5) h2 (by show (2 : Int) ≤ W; omega) (by show (W : Int) ≤ 50; omega) (by show sk ≤ 50; omega)).mono ?_
                rintro e w11 ⟨rfl, hG11, hE11⟩
                have HB11 := hid (HB10.out.trans (hE11.below hAw HB10.out.size))
                have hxy := take_xy h1 (show (2 : Int) ≤ W by omega) h5
                have hf1 : (fedG ⟨st, W, sk, W0, false⟩ [120, 121]).1 = 2 ∧ (fedG ⟨st, W, sk, W0, false⟩ [120, 121]).2.1 = 0 := by
                  unfold fedG
                  dsimp only
                  rcases hq : takeW st W sk W0 [120, 121] 0 with ⟨yy, ff⟩
                  rw [hq] at hxy
                  dsimp only at hxy
                  subst hxy
                  exact ⟨rfl, rfl⟩
                rw [hf1.1, hf1.2]
                clear hG11 hE11 HB10 HG10 HBy hxy hf1 HB9 HG9
                go_wp2
                go_ret
                exact ⟨rfl, HB11.out⟩
            · go_wp2_with (refine wpList_bytes rfl _ rfl (s.extract p (p + mn)) rfl ?_; intro w6 cap6 hB6 hz6 hb6)
              have e1 : (s.extract p (p + mn)).size = mn := by rw [ByteArray.size_extract]; omega
              have hb7 : Byt w6 (.slice (some ⟨wr.heap.size, 0, none⟩) mn cap6) (((bts s).drop p).take mn) := by
                have h := hb6.out
                rw [bts_mid s p mn (by omega), e1] at h
                exact h
              have hl7 : (((bts s).drop p).take mn).length = mn := by rw [List.length_take, List.length_drop, bts_len]; omega
              have hGl := HG.out.lt
              have HA6 : GdAt w6 A ⟨st, W, sk, y, false⟩ := WsAt.other HG.out (hB6.block A hGl)
              have hyok := takeW_ok (show (2 : Int) ≤ W by omega) (W0_ok h1 (by omega) h5) Htk.out
              have HB6 := hid (HB.out.trans (hB6.mono HB.out.size))
              refine (gfeed_take ⟨st, W, sk, y, false⟩ A _ (((bts s).drop p).take mn) w6 HA6 rfl hb7 (fun ad m c h _ => by simp at h; rw [← h.1]; simp; omega) (by omega) hyok h2 (by show (2 : Int) ≤ W; omega) (by show (W : Int) ≤ 50; omega) (by show sk ≤ 50; omega)).mono ?_
              rintro e w7 ⟨rfl, hG7, hE7⟩
              have HB7 := hid (HB6.out.trans (hE7.below hAw HB6.out.size))
              clear hE7 HB6 HA6 HB HG hb7 hb6 hB6 hyok
              rcases hT : takeW st W sk y (((bts s).drop p).take mn) 0 with ⟨z, _ | ⟨f, q⟩⟩
              · have he : fedG ⟨st, W, sk, y, false⟩ (((bts s).drop p).take mn) = ((mn : Int), 0, ⟨st, W, sk, z, false⟩) := by
                  unfold fedG; dsimp only; rw [hT]; simp [hl7]
                rw [he] at hG7 ⊢
                obtain ⟨k1, k2⟩ := piece_none (by rw [hbl]; omega) Htk.out hT
                have hpl : p + mn ≤ pl := by
                  cases hR : (takeW st W sk W0 (bts s) 0).2 with
                  | none => rw [(Hno.out hR).1]; omega
                  | some fq =>
                    obtain ⟨f, q⟩ := fq
                    rw [(Hyes.out f q hR).1]
                    exact k2 f q hR
                have hpl' : ¬ (pl : Int) < (p : Int) + mn := by omega
                have K1 := hid k1
                have HG7 := hid hG7
                clear k1 k2 hG7 he hT hl7 Htk
                dsimp only
                go_wp2
                exact ⟨⟨p + mn, k + 1, z, by omega, by omega, by go_num, by go_num, K1.out, HG7.out, HB7.out⟩, by simp [intOf]; omega⟩
              · have he : fedG ⟨st, W, sk, y, false⟩ (((bts s).drop p).take mn) = ((q : Int), (if f then 5 else 4), ⟨st, W, sk, W0, true⟩) := by
                  unfold fedG; dsimp only; rw [hT]; cases f <;> rfl
                obtain ⟨k1, k2⟩ := piece_some (by rw [hbl]; omega) Htk.out hT
                obtain ⟨hpq, hcd⟩ := Hyes.out f (q + p) k1
                rw [he, ← hcd] at hG7
                rw [he, ← hcd]
                have hpl' : (pl : Int) < (p : Int) + mn := by omega
                have hpl2 : (pl : Int) - (p : Int) = q := by omega
                have HG7 := hid hG7
                have hG7l := hG7.lt
                clear k1 hG7 he hT hl7 Htk hcd Hyes Hno
                dsimp only
                have kc := fun (w : World) (C : Array Value) (n c : Nat) => Lib.run_convert_bytes_const (P := Try.prog) w 35 5 C n c Try.underlying35 Try.underlying5
                go_wp2_with fail
                have HB8 := hid (HB7.out.alloc HB7.out.size (.cells #[.int .u8 120] 5 (1, 2)))
                have HG8 : Hd (GdAt (w7.alloc (.cells #[.int .u8 120] 5 (1, 2))) A ⟨st, W, sk, W0, true⟩) := hid (WsAt.other HG7.out (((Below.refl w7.heap.size w7).alloc (Nat.le_refl _) _).block A hG7l))
                refine (gfeed_dead _ A _ _ _ _ HG8.out rfl).mono ?_
                rintro e w8 ⟨rfl, rfl⟩
                generalize w7.alloc (.cells #[.int .u8 120] 5 (1, 2)) = w8 at *
                go_wp2_with fail
                refine (greset_any _ A _ HG8.out).mono ?_
                rintro e w9 ⟨rfl, hG9, hE9⟩
                have HG9 := hid hG9
                have hG9l := hG9.lt
                have HG9l := hid hG9l
                have HB9 := hid (HB8.out.trans (hE9.below hAw HB8.out.size))
                clear hG9 hE9 HB8 HG8 HB7 HG7
                dsimp only at HG9
                go_wp2_with fail
                have HB10 := hid (HB9.out.alloc HB9.out.size (.cells #[.int .u8 120, .int .u8 121] 5 (2, 3)))
                have HG10 : Hd (GdAt (w9.alloc (.cells #[.int .u8 120, .int .u8 121] 5 (2, 3))) A ⟨st, W, sk, W0, false⟩) := hid (WsAt.other HG9.out (((Below.refl w9.heap.size w9).alloc (Nat.le_refl _) _).block A hG9l))
                have HBy : Hd (Byt (w9.alloc (.cells #[.int .u8 120, .int .u8 121] 5 (2, 3))) (.slice (some ⟨w9.heap.size, 0, none⟩) 2 2) [120, 121]) := hid (Byt.row (al_new w9 (.cells #[.int .u8 120, .int .u8 121] 5 (2, 3))) 2 2 rfl)
                generalize w9.alloc (.cells #[.int .u8 120, .int .u8 121] 5 (2, 3)) = w10 at *
                refine (gfeed_take ⟨st, W, sk, W0, false⟩ A _ [120, 121] w10 HG10.out rfl HBy.out (fun ad m c h _ => by simp at h; rw [← h.1]; exact Nat.ne_of_gt HG9l.out) (by decide) (W0_ok h1 (show (2 : Int) ≤ W by omega) h5) h2 (by show (2 : Int) ≤ W; omega) (by show (W : Int) ≤ 50; omega) (by show sk ≤ 50; omega)).mono ?_
                rintro e w11 ⟨rfl, hG11, hE11⟩
                have HB11 := hid (HB10.out.trans (hE11.below hAw HB10.out.size))
                have hxy := take_xy h1 (show (2 : Int) ≤ W by omega) h5
                have hf1 : (fedG ⟨st, W, sk, W0, false⟩ [120, 121]).1 = 2 ∧ (fedG ⟨st, W, sk, W0, false⟩ [120, 121]).2.1 = 0 := by
                  unfold fedG
                  dsimp only
                  rcases hq : takeW st W sk W0 [120, 121] 0 with ⟨yy, ff⟩
                  rw [hq] at hxy
                  dsimp only at hxy
                  subst hxy
                  exact ⟨rfl, rfl⟩
                rw [hf1.1, hf1.2]
                clear hG11 hE11 HB10 HG10 HBy hxy hf1 HB9 HG9
                go_wp2
                go_ret
                exact ⟨rfl, HB11.out⟩
      · have hps' : ¬ (p : Int) < s.size := by omega
        go_wp2
        go_ret
        exact ⟨rfl, HB.out⟩
    · have hk1' : ¬ (k : Int) ≤ zs.length := by omega
      go_wp2
      go_ret
      exact ⟨rfl, HB.out⟩
end Go.Proofs.Ytbifmhbkmnofiaa
