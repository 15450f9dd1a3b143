import Derived.Test.YtbifmhbkmnofiaaWk
import Derived.Test.YtbifmhbkmnofiaaDs
namespace Go.Proofs.Ytbifmhbkmnofiaa
open Go.RowKit
set_option linter.unusedVariables false
set_option linter.unusedSimpArgs false
theorem wrongV_form (n : Nat) (R : Option (Bool × Nat)) : ∃ (pl : Nat) (cd : Int), wrongV n R = .tuple #[.int .i64 pl, .int .i64 cd] ∧ (∀ f q, R = some (f, q) → pl = q ∧ cd = if f then 5 else 4) ∧ (R = none → pl = n ∧ cd = 0) := by
  rcases R with _ | ⟨f, q⟩
  · exact ⟨n, 0, rfl, fun f q h => by simp at h, fun _ => ⟨rfl, rfl⟩⟩
  · cases f
    · exact ⟨q, 4, rfl, fun f q h => by simp at h; obtain ⟨rfl, rfl⟩ := h; simp, fun h => by simp at h⟩
    · exact ⟨q, 5, rfl, fun f q h => by simp at h; obtain ⟨rfl, rfl⟩ := h; simp, fun h => by simp at h⟩
set_option maxRecDepth 20000 in
set_option maxHeartbeats 2000000 in
theorem guarded_walk (a b c : Int) (s : ByteArray) (vc : Value) (zs : List Int) (w : World) (hs : s.size ≤ 9223372036854775807) (hc : SlV w vc (zs.map (Value.int .i64)))
    (hz : ∀ z ∈ zs, -9223372036854775808 ≤ z ∧ z ≤ 9223372036854775807) (hzl : zs.length ≤ 9223372036854775806) 
    (ha : -9223372036854775808 ≤ a) (ha' : a ≤ 9223372036854775807) (hb : -9223372036854775808 ≤ b) (hb' : b ≤ 9223372036854775807) (hcc : -9223372036854775808 ≤ c) (hcc' : c ≤ 9223372036854775807) :
    Calls Try.prog 8 #[.int .i64 a, .int .i64 b, .int .i64 c, .string s, vc] w fun e w' => e = .returned (.bool true) ∧ Below w.heap.size w w' := by
  obtain ⟨ac, capc, rfl, hc⟩ := hc
  rw [List.length_map] at hc
  have Hc := hid hc
  have Hz := hid hz
  clear hc hz
  simp only [List.length_map]
  go_enter Try.func8, Try.ntmps8
  go_wp2_with fail
  refine (guarded_any _).mono ?_
  rintro e w1 ⟨rfl, hB1⟩
  have HB1 := hid hB1
  clear hB1
  go_wp2_with fail
  refine (kwatch_any a b c _ ha ha' hb hb' hcc hcc').mono ?_
  rintro e w2 ⟨rfl, hB2⟩
  have HB2 := hid (HB1.out.trans (hB2.mono HB1.out.size))
  clear hB2 HB1
  obtain ⟨p0, p1⟩ := pickI_bd a 49 (by decide)
  obtain ⟨q0, q1⟩ := pickI_bd b 49 (by decide)
  obtain ⟨r0, r1⟩ := pickI_bd c (2 + pickI b 49 - 1) (by omega)
  generalize pickI c (2 + pickI b 49 - 1) = r at *
  generalize pickI a 49 = p at *
  generalize pickI b 49 = q at *
  obtain ⟨st, hst⟩ : ∃ st, 2 + p = st := ⟨_, rfl⟩
  obtain ⟨W, hW⟩ : ∃ W : Nat, 2 + q = (W : Int) := ⟨(2 + q).toNat, by omega⟩
  obtain ⟨sk, hsk⟩ : ∃ sk, 2 + r = sk := ⟨_, rfl⟩
  rw [hst, hW, hsk]
  have h1 : 2 ≤ st := by omega
  have h2 : st ≤ 50 := by omega
  have h3 : 2 ≤ W := by omega
  have h4 : W ≤ 50 := by omega
  have h5 : 2 ≤ sk := by omega
  have h6 : sk ≤ W := by omega
  clear hst hW hsk p0 p1 q0 q1 r0 r1
  go_wp2_with fail
  have HW2 : Hd ((w2.alloc (.cells #[.int .i64 st, .int .i64 W, .int .i64 sk] 51)).heap[w2.heap.size]? = some (.cells #[.int .i64 st, .int .i64 W, .int .i64 sk] 51 (0, 0))) := hid (al_new _ _)
  have HB3 := hid (HB2.out.alloc HB2.out.size (.cells #[.int .i64 st, .int .i64 W, .int .i64 sk] 51))
  have hz2 := al_size w2 (.cells #[.int .i64 st, .int .i64 W, .int .i64 sk] 51)
  generalize w2.alloc (.cells #[.int .i64 st, .int .i64 W, .int .i64 sk] 51) = w3 at *
  refine (newGuard_yes st W sk _ ⟨h1, h2, by omega, by omega, h5, h6⟩).mono ?_
  rintro e w4 ⟨A, rfl, hA, hG4, hB4⟩
  have HG4 := hid hG4
  have HW4 := hid ((hB4.block w2.heap.size (by omega)).trans HW2.out)
  have HB4 := hid (HB3.out.trans (hB4.mono HB3.out.size))
  have hAw : w.heap.size ≤ A := Nat.le_trans HB3.out.size hA
  have hAl := hG4.lt
  have hAne : w2.heap.size ≠ A := by omega
  generalize w2.heap.size = L at *
  clear hG4 hB4 HB3 HB2 HW2 hz2
  have cS := cell_of_row _ _ 0 _ _ _ HW4.out
  have cW := cell_of_row _ _ 1 _ _ _ HW4.out
  have cK := cell_of_row _ _ 2 _ _ _ HW4.out
  simp only [List.getElem?_toArray, List.getElem?_cons_zero, List.getElem?_cons_succ] at cS cW cK
  go_wp2_with fail
  refine (short_any s 400 _ (by omega) hs).mono ?_
  rintro e w' ⟨rfl, rfl⟩
  have hss := (cut_size s 400).1
  clear hs
  generalize cut s 400 = s at *
  go_wp2_with fail
  refine (wrong_any st sk W s _ h1 h2 h3 h4 h5 (by omega) (by omega)).mono ?_
  rintro e w5 ⟨rfl, hB5⟩
  obtain ⟨pl, cd, hv, hyes, hno⟩ := wrongV_form s.size (takeW st W sk W0 (bts s) 0).2
  rw [hv]
  have Hyes := hid hyes
  have Hno := hid hno
  have HG5 : Hd (GdAt w5 A ⟨st, W, sk, W0, false⟩) := hid (WsAt.other HG4.out (hB5.block A hAl))
  have HB5 := hid (HB4.out.trans (hB5.mono HB4.out.size))
  clear hv hyes hno hB5 HB4 HG4 HW4 cS cW cK
  have hbl := bts_len s
  go_wp2
  go_loopw [18, 19] (fun at_ i wr => ∃ (p k : Nat) (y : WS), p ≤ s.size ∧ k ≤ zs.length + 1 ∧ at_ = .int .i64 p ∧ i = .int .i64 k ∧ takeW st W sk W0 ((bts s).take p) 0 = (y, none) ∧ GdAt wr A ⟨st, W, sk, y, false⟩ ∧ Below w.heap.size w wr) (fun _ i _ => zs.length + 1 - (intOf i).toNat)
  case atStart => exact ⟨0, 0, W0, by omega, by omega, rfl, rfl, rfl, HG5.out, HB5.out⟩
  case round =>
    clear HG5 HB5
    obtain ⟨p, k, y, hp, hk, rfl, rfl, htk, hG, hB⟩ := hrel
    have Htk := hid htk
    have HG := hid hG
    have HB := hid hB
    clear htk hG hB
    by_cases hk1 : k ≤ zs.length
    · have hk1' : (k : Int) ≤ zs.length := by omega
      by_cases hps : p < s.size
      · have hps' : (p : Int) < s.size := by omega
        obtain ⟨mn, hmn⟩ : ∃ mn : Nat, min ((s.size : Int) - p) 200 = (mn : Int) := ⟨(min ((s.size : Int) - p) 200).toNat, by omega⟩
        have hmn1 : p + mn ≤ s.size := by omega
        have hmn2 : mn ≤ 200 := by omega
        by_cases hcut : k < zs.length ∧ k < 50
        · obtain ⟨hlt1, hlt2⟩ := hcut
          obtain ⟨db, off, rfl, hcell⟩ := Hc.out (by omega)
          have c1 := hcell k (.int .i64 zs[k]) (by simp [List.getElem?_eq_getElem hlt1])
          have c2 : wr.cell? ⟨db, off + k, none⟩ = some (.int .i64 zs[k]) := by
            rw [HB.out.cell (World.block_lt_of_cell? w _ c1)]; exact c1
          clear hcell c1
          obtain ⟨hz0, hz1⟩ := Hz.out _ (List.getElem_mem hlt1)
          generalize zs[k] = z at *
          have hlt1' : (k : Int) < zs.length := by omega
          have hlt2' : (k : Int) < 50 := by omega
          go_wp2_with fail
          have hpb := pickI_bd z ((mn : Int) + 1) (by omega)
          refine (pick_any z _ _ hz0 hz1 (by omega) (by omega)).mono ?_
          rintro e w'' ⟨rfl, rfl⟩
          generalize pickI z ((mn : Int) + 1) = r at *
          obtain ⟨n, rfl⟩ := Int.eq_ofNat_of_zero_le hpb.1
          have hpn : p + n ≤ s.size := by omega
          have hpn' : (p : Int) + n ≤ s.size := by omega
          have hn2 : n ≤ 200 := by omega
          clear hpb hmn c2
          go_wp2_with (refine wpList_bytes rfl _ rfl (s.extract p (p + n)) rfl ?_; intro w6 cap6 hB6 hz6 hb6)
          have e1 : (s.extract p (p + n)).size = n := by rw [ByteArray.size_extract]; omega
          have hb7 : Byt w6 (.slice (some ⟨w''.heap.size, 0, none⟩) n cap6) (((bts s).drop p).take n) := by
            have h := hb6.out
            rw [bts_mid s p n (by omega), e1] at h
            exact h
          have hl7 : (((bts s).drop p).take n).length = n := by rw [List.length_take, List.length_drop, bts_len]; omega
          have hGl := HG.out.lt
          have HA6 : GdAt w6 A ⟨st, W, sk, y, false⟩ := WsAt.other HG.out (hB6.block A hGl)
          have hyok := takeW_ok (show (2 : Int) ≤ W by omega) (W0_ok h1 (by omega) h5) Htk.out
          have HB6 := hid (HB.out.trans (hB6.mono HB.out.size))
          refine (gfeed_take ⟨st, W, sk, y, false⟩ A _ (((bts s).drop p).take n) w6 HA6 rfl hb7 (fun ad m c h _ => by simp at h; rw [← h.1]; simp; omega) (by omega) hyok h2 (by show (2 : Int) ≤ W; omega) (by show (W : Int) ≤ 50; omega) (by show sk ≤ 50; omega)).mono ?_
          rintro e w7 ⟨rfl, hG7, hE7⟩
          have HB7 := hid (HB6.out.trans (hE7.below hAw HB6.out.size))
          clear hE7 HB6 HA6 HB HG hb7 hb6 hB6 hyok
          rcases hT : takeW st W sk y (((bts s).drop p).take n) 0 with ⟨z, _ | ⟨f, q⟩⟩
          · have he : fedG ⟨st, W, sk, y, false⟩ (((bts s).drop p).take n) = ((n : Int), 0, ⟨st, W, sk, z, false⟩) := by
              unfold fedG; dsimp only; rw [hT]; simp [hl7]
            rw [he] at hG7 ⊢
            obtain ⟨k1, k2⟩ := piece_none (by rw [hbl]; omega) Htk.out hT
            have hpl : p + n ≤ pl := by
              cases hR : (takeW st W sk W0 (bts s) 0).2 with
              | none => rw [(Hno.out hR).1]; omega
              | some fq =>
                obtain ⟨f, q⟩ := fq
                rw [(Hyes.out f q hR).1]
                exact k2 f q hR
            have hpl' : ¬ (pl : Int) < (p : Int) + n := by omega
            have K1 := hid k1
            have HG7 := hid hG7
            clear k1 k2 hG7 he hT hl7 Htk
            dsimp only
            go_wp2
            exact ⟨⟨p + n, k + 1, z, by omega, by omega, by go_num, by go_num, K1.out, HG7.out, HB7.out⟩, by simp [intOf]; omega⟩
          · have he : fedG ⟨st, W, sk, y, false⟩ (((bts s).drop p).take n) = ((q : Int), (if f then 5 else 4), ⟨st, W, sk, W0, true⟩) := by
              unfold fedG; dsimp only; rw [hT]; cases f <;> rfl
            obtain ⟨k1, k2⟩ := piece_some (by rw [hbl]; omega) Htk.out hT
            obtain ⟨hpq, hcd⟩ := Hyes.out f (q + p) k1
            rw [he, ← hcd] at hG7
            rw [he, ← hcd]
            have hpl' : (pl : Int) < (p : Int) + n := by omega
            have hpl2 : (pl : Int) - (p : Int) = q := by omega
            have HG7 := hid hG7
            have hG7l := hG7.lt
            clear k1 hG7 he hT hl7 Htk hcd Hyes Hno
            dsimp only
            have kc := fun (w : World) (C : Array Value) (n c : Nat) => Lib.run_convert_bytes_const (P := Try.prog) w 35 5 C n c Try.underlying35 Try.underlying5
            go_wp2_with fail
            have HB8 := hid (HB7.out.alloc HB7.out.size (.cells #[.int .u8 120] 5 (1, 2)))
            have HG8 : Hd (GdAt (w7.alloc (.cells #[.int .u8 120] 5 (1, 2))) A ⟨st, W, sk, W0, true⟩) := hid (WsAt.other HG7.out (((Below.refl w7.heap.size w7).alloc (Nat.le_refl _) _).block A hG7l))
            refine (gfeed_dead _ A _ _ _ _ HG8.out rfl).mono ?_
            rintro e w8 ⟨rfl, rfl⟩
            generalize w7.alloc (.cells #[.int .u8 120] 5 (1, 2)) = w8 at *
            go_wp2_with fail
            refine (greset_any _ A _ HG8.out).mono ?_
            rintro e w9 ⟨rfl, hG9, hE9⟩
            have HG9 := hid hG9
            have hG9l := hG9.lt
            have HG9l := hid hG9l
            have HB9 := hid (HB8.out.trans (hE9.below hAw HB8.out.size))
            clear hG9 hE9 HB8 HG8 HB7 HG7
            dsimp only at HG9
            go_wp2_with fail
            have HB10 := hid (HB9.out.alloc HB9.out.size (.cells #[.int .u8 120, .int .u8 121] 5 (2, 3)))
            have HG10 : Hd (GdAt (w9.alloc (.cells #[.int .u8 120, .int .u8 121] 5 (2, 3))) A ⟨st, W, sk, W0, false⟩) := hid (WsAt.other HG9.out (((Below.refl w9.heap.size w9).alloc (Nat.le_refl _) _).block A hG9l))
            have HBy : Hd (Byt (w9.alloc (.cells #[.int .u8 120, .int .u8 121] 5 (2, 3))) (.slice (some ⟨w9.heap.size, 0, none⟩) 2 2) [120, 121]) := hid (Byt.row (al_new w9 (.cells #[.int .u8 120, .int .u8 121] 5 (2, 3))) 2 2 rfl)
            generalize w9.alloc (.cells #[.int .u8 120, .int .u8 121] 5 (2, 3)) = w10 at *
            refine (gfeed_take ⟨st, W, sk, W0, false⟩ A _ [120, 121] w10 HG10.out rfl HBy.out (fun ad m c h _ => by simp at h; rw [← h.1]; exact Nat.ne_of_gt HG9l.out) (by decide) (W0_ok h1 (show (2 : Int) ≤ W by omega) h5) h2 (by show (2 : Int) ≤ W; omega) (by show (W : Int) ≤ 50; omega) (by show sk ≤ 50; omega)).mono ?_
            rintro e w11 ⟨rfl, hG11, hE11⟩
            have HB11 := hid (HB10.out.trans (hE11.below hAw HB10.out.size))
            have hxy := take_xy h1 (show (2 : Int) ≤ W by omega) h5
            have hf1 : (fedG ⟨st, W, sk, W0, false⟩ [120, 121]).1 = 2 ∧ (fedG ⟨st, W, sk, W0, false⟩ [120, 121]).2.1 = 0 := by
              unfold fedG
              dsimp only
              rcases hq : takeW st W sk W0 [120, 121] 0 with ⟨yy, ff⟩
              rw [hq] at hxy
              dsimp only at hxy
              subst hxy
              exact ⟨rfl, rfl⟩
            rw [hf1.1, hf1.2]
            clear hG11 hE11 HB10 HG10 HBy hxy hf1 HB9 HG9
            go_wp2
            go_ret
            exact ⟨rfl, HB11.out⟩
        · have hcut' : ¬ ((k : Int) < zs.length) ∨ ¬ ((k : Int) < 50) := by omega
          obtain ⟨n, rfl⟩ : ∃ n, mn = n := ⟨_, rfl⟩
          have hpn' : (p : Int) + mn ≤ s.size := by omega
          rcases hcut' with h | h
          · go_wp2_with (refine wpList_bytes rfl _ rfl (s.extract p (p + mn)) rfl ?_; intro w6 cap6 hB6 hz6 hb6)
            have e1 : (s.extract p (p + mn)).size = mn := by rw [ByteArray.size_extract]; omega
            have hb7 : Byt w6 (.slice (some ⟨wr.heap.size, 0, none⟩) mn cap6) (((bts s).drop p).take mn) := by
              have h := hb6.out
              rw [bts_mid s p mn (by omega), e1] at h
              exact h
            have hl7 : (((bts s).drop p).take mn).length = mn := by rw [List.length_take, List.length_drop, bts_len]; omega
            have hGl := HG.out.lt
            have HA6 : GdAt w6 A ⟨st, W, sk, y, false⟩ := WsAt.other HG.out (hB6.block A hGl)
            have hyok := takeW_ok (show (2 : Int) ≤ W by omega) (W0_ok h1 (by omega) h5) Htk.out
            have HB6 := hid (HB.out.trans (hB6.mono HB.out.size))
            refine (gfeed_take ⟨st, W, sk, y, false⟩ A _ (((bts s).drop p).take mn) w6 HA6 rfl hb7 (fun ad m c h _ => by simp at h; rw [← h.1]; simp; omega) (by omega) hyok h2 (by show (2 : Int) ≤ W; omega) (by show (W : Int) ≤ 50; omega) (by show sk ≤ 50; omega)).mono ?_
            rintro e w7 ⟨rfl, hG7, hE7⟩
            have HB7 := hid (HB6.out.trans (hE7.below hAw HB6.out.size))
            clear hE7 HB6 HA6 HB HG hb7 hb6 hB6 hyok
            rcases hT : takeW st W sk y (((bts s).drop p).take mn) 0 with ⟨z, _ | ⟨f, q⟩⟩
            · have he : fedG ⟨st, W, sk, y, false⟩ (((bts s).drop p).take mn) = ((mn : Int), 0, ⟨st, W, sk, z, false⟩) := by
                unfold fedG; dsimp only; rw [hT]; simp [hl7]
              rw [he] at hG7 ⊢
              obtain ⟨k1, k2⟩ := piece_none (by rw [hbl]; omega) Htk.out hT
              have hpl : p + mn ≤ pl := by
                cases hR : (takeW st W sk W0 (bts s) 0).2 with
                | none => rw [(Hno.out hR).1]; omega
                | some fq =>
                  obtain ⟨f, q⟩ := fq
                  rw [(Hyes.out f q hR).1]
                  exact k2 f q hR
              have hpl' : ¬ (pl : Int) < (p : Int) + mn := by omega
              have K1 := hid k1
              have HG7 := hid hG7
              clear k1 k2 hG7 he hT hl7 Htk
              dsimp only
              go_wp2
              exact ⟨⟨p + mn, k + 1, z, by omega, by omega, by go_num, by go_num, K1.out, HG7.out, HB7.out⟩, by simp [intOf]; omega⟩
            · have he : fedG ⟨st, W, sk, y, false⟩ (((bts s).drop p).take mn) = ((q : Int), (if f then 5 else 4), ⟨st, W, sk, W0, true⟩) := by
                unfold fedG; dsimp only; rw [hT]; cases f <;> rfl
              obtain ⟨k1, k2⟩ := piece_some (by rw [hbl]; omega) Htk.out hT
              obtain ⟨hpq, hcd⟩ := Hyes.out f (q + p) k1
              rw [he, ← hcd] at hG7
              rw [he, ← hcd]
              have hpl' : (pl : Int) < (p : Int) + mn := by omega
              have hpl2 : (pl : Int) - (p : Int) = q := by omega
              have HG7 := hid hG7
              have hG7l := hG7.lt
              clear k1 hG7 he hT hl7 Htk hcd Hyes Hno
              dsimp only
              have kc := fun (w : World) (C : Array Value) (n c : Nat) => Lib.run_convert_bytes_const (P := Try.prog) w 35 5 C n c Try.underlying35 Try.underlying5
              go_wp2_with fail
              have HB8 := hid (HB7.out.alloc HB7.out.size (.cells #[.int .u8 120] 5 (1, 2)))
              have HG8 : Hd (GdAt (w7.alloc (.cells #[.int .u8 120] 5 (1, 2))) A ⟨st, W, sk, W0, true⟩) := hid (WsAt.other HG7.out (((Below.refl w7.heap.size w7).alloc (Nat.le_refl _) _).block A hG7l))
              refine (gfeed_dead _ A _ _ _ _ HG8.out rfl).mono ?_
              rintro e w8 ⟨rfl, rfl⟩
              generalize w7.alloc (.cells #[.int .u8 120] 5 (1, 2)) = w8 at *
              go_wp2_with fail
              refine (greset_any _ A _ HG8.out).mono ?_
              rintro e w9 ⟨rfl, hG9, hE9⟩
              have HG9 := hid hG9
              have hG9l := hG9.lt
              have HG9l := hid hG9l
              have HB9 := hid (HB8.out.trans (hE9.below hAw HB8.out.size))
              clear hG9 hE9 HB8 HG8 HB7 HG7
              dsimp only at HG9
              go_wp2_with fail
              have HB10 := hid (HB9.out.alloc HB9.out.size (.cells #[.int .u8 120, .int .u8 121] 5 (2, 3)))
              have HG10 : Hd (GdAt (w9.alloc (.cells #[.int .u8 120, .int .u8 121] 5 (2, 3))) A ⟨st, W, sk, W0, false⟩) := hid (WsAt.other HG9.out (((Below.refl w9.heap.size w9).alloc (Nat.le_refl _) _).block A hG9l))
              have HBy : Hd (Byt (w9.alloc (.cells #[.int .u8 120, .int .u8 121] 5 (2, 3))) (.slice (some ⟨w9.heap.size, 0, none⟩) 2 2) [120, 121]) := hid (Byt.row (al_new w9 (.cells #[.int .u8 120, .int .u8 121] 5 (2, 3))) 2 2 rfl)
              generalize w9.alloc (.cells #[.int .u8 120, .int .u8 121] 5 (2, 3)) = w10 at *
              refine (gfeed_take ⟨st, W, sk, W0, false⟩ A _ [120, 121] w10 HG10.out rfl HBy.out (fun ad m c h _ => by simp at h; rw [← h.1]; exact Nat.ne_of_gt HG9l.out) (by decide) (W0_ok h1 (show (2 : Int) ≤ W by omega) h5) h2 (by show (2 : Int) ≤ W; omega) (by show (W : Int) ≤ 50; omega) (by show sk ≤ 50; omega)).mono ?_
              rintro e w11 ⟨rfl, hG11, hE11⟩
              have HB11 := hid (HB10.out.trans (hE11.below hAw HB10.out.size))
              have hxy := take_xy h1 (show (2 : Int) ≤ W by omega) h5
              have hf1 : (fedG ⟨st, W, sk, W0, false⟩ [120, 121]).1 = 2 ∧ (fedG ⟨st, W, sk, W0, false⟩ [120, 121]).2.1 = 0 := by
                unfold fedG
                dsimp only
                rcases hq : takeW st W sk W0 [120, 121] 0 with ⟨yy, ff⟩
                rw [hq] at hxy
                dsimp only at hxy
                subst hxy
                exact ⟨rfl, rfl⟩
              rw [hf1.1, hf1.2]
              clear hG11 hE11 HB10 HG10 HBy hxy hf1 HB9 HG9
              go_wp2
              go_ret
              exact ⟨rfl, HB11.out⟩
          · by_cases h' : (k : Int) < zs.length
            · go_wp2_with (refine wpList_bytes rfl _ rfl (s.extract p (p + mn)) rfl ?_; intro w6 cap6 hB6 hz6 hb6)
              have e1 : (s.extract p (p + mn)).size = mn := by rw [ByteArray.size_extract]; omega
              have hb7 : Byt w6 (.slice (some ⟨wr.heap.size, 0, none⟩) mn cap6) (((bts s).drop p).take mn) := by
                have h := hb6.out
                rw [bts_mid s p mn (by omega), e1] at h
                exact h
              have hl7 : (((bts s).drop p).take mn).length = mn := by rw [List.length_take, List.length_drop, bts_len]; omega
              have hGl := HG.out.lt
              have HA6 : GdAt w6 A ⟨st, W, sk, y, false⟩ := WsAt.other HG.out (hB6.block A hGl)
              have hyok := takeW_ok (show (2 : Int) ≤ W by omega) (W0_ok h1 (by omega) h5) Htk.out
              have HB6 := hid (HB.out.trans (hB6.mono HB.out.size))
              refine (gfeed_take ⟨st, W, sk, y, false⟩ A _ (((bts s).drop p).take mn) w6 HA6 rfl hb7 (fun ad m c h _ => by simp at h; rw [← h.1]; simp; omega) (by omega) hyok h2 (by show (2 : Int) ≤ W; omega) (by show (W : Int) ≤ 50; omega) (by show sk ≤ 50; omega)).mono ?_
              rintro e w7 ⟨rfl, hG7, hE7⟩
              have HB7 := hid (HB6.out.trans (hE7.below hAw HB6.out.size))
              clear hE7 HB6 HA6 HB HG hb7 hb6 hB6 hyok
              rcases hT : takeW st W sk y (((bts s).drop p).take mn) 0 with ⟨z, _ | ⟨f, q⟩⟩
              · have he : fedG ⟨st, W, sk, y, false⟩ (((bts s).drop p).take mn) = ((mn : Int), 0, ⟨st, W, sk, z, false⟩) := by
                  unfold fedG; dsimp only; rw [hT]; simp [hl7]
                rw [he] at hG7 ⊢
                obtain ⟨k1, k2⟩ := piece_none (by rw [hbl]; omega) Htk.out hT
                have hpl : p + mn ≤ pl := by
                  cases hR : (takeW st W sk W0 (bts s) 0).2 with
                  | none => rw [(Hno.out hR).1]; omega
                  | some fq =>
                    obtain ⟨f, q⟩ := fq
                    rw [(Hyes.out f q hR).1]
                    exact k2 f q hR
                have hpl' : ¬ (pl : Int) < (p : Int) + mn := by omega
                have K1 := hid k1
                have HG7 := hid hG7
                clear k1 k2 hG7 he hT hl7 Htk
                dsimp only
                go_wp2
                exact ⟨⟨p + mn, k + 1, z, by omega, by omega, by go_num, by go_num, K1.out, HG7.out, HB7.out⟩, by simp [intOf]; omega⟩
              · have he : fedG ⟨st, W, sk, y, false⟩ (((bts s).drop p).take mn) = ((q : Int), (if f then 5 else 4), ⟨st, W, sk, W0, true⟩) := by
                  unfold fedG; dsimp only; rw [hT]; cases f <;> rfl
                obtain ⟨k1, k2⟩ := piece_some (by rw [hbl]; omega) Htk.out hT
                obtain ⟨hpq, hcd⟩ := Hyes.out f (q + p) k1
                rw [he, ← hcd] at hG7
                rw [he, ← hcd]
                have hpl' : (pl : Int) < (p : Int) + mn := by omega
                have hpl2 : (pl : Int) - (p : Int) = q := by omega
                have HG7 := hid hG7
                have hG7l := hG7.lt
                clear k1 hG7 he hT hl7 Htk hcd Hyes Hno
                dsimp only
                have kc := fun (w : World) (C : Array Value) (n c : Nat) => Lib.run_convert_bytes_const (P := Try.prog) w 35 5 C n c Try.underlying35 Try.underlying5
                go_wp2_with fail
                have HB8 := hid (HB7.out.alloc HB7.out.size (.cells #[.int .u8 120] 5 (1, 2)))
                have HG8 : Hd (GdAt (w7.alloc (.cells #[.int .u8 120] 5 (1, 2))) A ⟨st, W, sk, W0, true⟩) := hid (WsAt.other HG7.out (((Below.refl w7.heap.size w7).alloc (Nat.le_refl _) _).block A hG7l))
                refine (gfeed_dead _ A _ _ _ _ HG8.out rfl).mono ?_
                rintro e w8 ⟨rfl, rfl⟩
                generalize w7.alloc (.cells #[.int .u8 120] 5 (1, 2)) = w8 at *
                go_wp2_with fail
                refine (greset_any _ A _ HG8.out).mono ?_
                rintro e w9 ⟨rfl, hG9, hE9⟩
                have HG9 := hid hG9
                have hG9l := hG9.lt
                have HG9l := hid hG9l
                have HB9 := hid (HB8.out.trans (hE9.below hAw HB8.out.size))
                clear hG9 hE9 HB8 HG8 HB7 HG7
                dsimp only at HG9
                go_wp2_with fail
                have HB10 := hid (HB9.out.alloc HB9.out.size (.cells #[.int .u8 120, .int .u8 121] 5 (2, 3)))
                have HG10 : Hd (GdAt (w9.alloc (.cells #[.int .u8 120, .int .u8 121] 5 (2, 3))) A ⟨st, W, sk, W0, false⟩) := hid (WsAt.other HG9.out (((Below.refl w9.heap.size w9).alloc (Nat.le_refl _) _).block A hG9l))
                have HBy : Hd (Byt (w9.alloc (.cells #[.int .u8 120, .int .u8 121] 5 (2, 3))) (.slice (some ⟨w9.heap.size, 0, none⟩) 2 2) [120, 121]) := hid (Byt.row (al_new w9 (.cells #[.int .u8 120, .int .u8 121] 5 (2, 3))) 2 2 rfl)
                generalize w9.alloc (.cells #[.int .u8 120, .int .u8 121] 5 (2, 3)) = w10 at *
                refine (gfeed_take ⟨st, W, sk, W0, false⟩ A _ [120, 121] w10 HG10.out rfl HBy.out (fun ad m c h _ => by simp at h; rw [← h.1]; exact Nat.ne_of_gt HG9l.out) (by decide) (W0_ok h1 (show (2 : Int) ≤ W by omega) h5) h2 (by show (2 : Int) ≤ W; omega) (by show (W : Int) ≤ 50; omega) (by show sk ≤ 50; omega)).mono ?_
                rintro e w11 ⟨rfl, hG11, hE11⟩
                have HB11 := hid (HB10.out.trans (hE11.below hAw HB10.out.size))
                have hxy := take_xy h1 (show (2 : Int) ≤ W by omega) h5
                have hf1 : (fedG ⟨st, W, sk, W0, false⟩ [120, 121]).1 = 2 ∧ (fedG ⟨st, W, sk, W0, false⟩ [120, 121]).2.1 = 0 := by
                  unfold fedG
                  dsimp only
                  rcases hq : takeW st W sk W0 [120, 121] 0 with ⟨yy, ff⟩
                  rw [hq] at hxy
                  dsimp only at hxy
                  subst hxy
                  exact ⟨rfl, rfl⟩
                rw [hf1.1, hf1.2]
                clear hG11 hE11 HB10 HG10 HBy hxy hf1 HB9 HG9
                go_wp2
                go_ret
                exact ⟨rfl, HB11.out⟩
            · go_wp2_with (refine wpList_bytes rfl _ rfl (s.extract p (p + mn)) rfl ?_; intro w6 cap6 hB6 hz6 hb6)
              have e1 : (s.extract p (p + mn)).size = mn := by rw [ByteArray.size_extract]; omega
              have hb7 : Byt w6 (.slice (some ⟨wr.heap.size, 0, none⟩) mn cap6) (((bts s).drop p).take mn) := by
                have h := hb6.out
                rw [bts_mid s p mn (by omega), e1] at h
                exact h
              have hl7 : (((bts s).drop p).take mn).length = mn := by rw [List.length_take, List.length_drop, bts_len]; omega
              have hGl := HG.out.lt
              have HA6 : GdAt w6 A ⟨st, W, sk, y, false⟩ := WsAt.other HG.out (hB6.block A hGl)
              have hyok := takeW_ok (show (2 : Int) ≤ W by omega) (W0_ok h1 (by omega) h5) Htk.out
              have HB6 := hid (HB.out.trans (hB6.mono HB.out.size))
              refine (gfeed_take ⟨st, W, sk, y, false⟩ A _ (((bts s).drop p).take mn) w6 HA6 rfl hb7 (fun ad m c h _ => by simp at h; rw [← h.1]; simp; omega) (by omega) hyok h2 (by show (2 : Int) ≤ W; omega) (by show (W : Int) ≤ 50; omega) (by show sk ≤ 50; omega)).mono ?_
              rintro e w7 ⟨rfl, hG7, hE7⟩
              have HB7 := hid (HB6.out.trans (hE7.below hAw HB6.out.size))
              clear hE7 HB6 HA6 HB HG hb7 hb6 hB6 hyok
              rcases hT : takeW st W sk y (((bts s).drop p).take mn) 0 with ⟨z, _ | ⟨f, q⟩⟩
              · have he : fedG ⟨st, W, sk, y, false⟩ (((bts s).drop p).take mn) = ((mn : Int), 0, ⟨st, W, sk, z, false⟩) := by
                  unfold fedG; dsimp only; rw [hT]; simp [hl7]
                rw [he] at hG7 ⊢
                obtain ⟨k1, k2⟩ := piece_none (by rw [hbl]; omega) Htk.out hT
                have hpl : p + mn ≤ pl := by
                  cases hR : (takeW st W sk W0 (bts s) 0).2 with
                  | none => rw [(Hno.out hR).1]; omega
                  | some fq =>
                    obtain ⟨f, q⟩ := fq
                    rw [(Hyes.out f q hR).1]
                    exact k2 f q hR
                have hpl' : ¬ (pl : Int) < (p : Int) + mn := by omega
                have K1 := hid k1
                have HG7 := hid hG7
                clear k1 k2 hG7 he hT hl7 Htk
                dsimp only
                go_wp2
                exact ⟨⟨p + mn, k + 1, z, by omega, by omega, by go_num, by go_num, K1.out, HG7.out, HB7.out⟩, by simp [intOf]; omega⟩
              · have he : fedG ⟨st, W, sk, y, false⟩ (((bts s).drop p).take mn) = ((q : Int), (if f then 5 else 4), ⟨st, W, sk, W0, true⟩) := by
                  unfold fedG; dsimp only; rw [hT]; cases f <;> rfl
                obtain ⟨k1, k2⟩ := piece_some (by rw [hbl]; omega) Htk.out hT
                obtain ⟨hpq, hcd⟩ := Hyes.out f (q + p) k1
                rw [he, ← hcd] at hG7
                rw [he, ← hcd]
                have hpl' : (pl : Int) < (p : Int) + mn := by omega
                have hpl2 : (pl : Int) - (p : Int) = q := by omega
                have HG7 := hid hG7
                have hG7l := hG7.lt
                clear k1 hG7 he hT hl7 Htk hcd Hyes Hno
                dsimp only
                have kc := fun (w : World) (C : Array Value) (n c : Nat) => Lib.run_convert_bytes_const (P := Try.prog) w 35 5 C n c Try.underlying35 Try.underlying5
                go_wp2_with fail
                have HB8 := hid (HB7.out.alloc HB7.out.size (.cells #[.int .u8 120] 5 (1, 2)))
                have HG8 : Hd (GdAt (w7.alloc (.cells #[.int .u8 120] 5 (1, 2))) A ⟨st, W, sk, W0, true⟩) := hid (WsAt.other HG7.out (((Below.refl w7.heap.size w7).alloc (Nat.le_refl _) _).block A hG7l))
                refine (gfeed_dead _ A _ _ _ _ HG8.out rfl).mono ?_
                rintro e w8 ⟨rfl, rfl⟩
                generalize w7.alloc (.cells #[.int .u8 120] 5 (1, 2)) = w8 at *
                go_wp2_with fail
                refine (greset_any _ A _ HG8.out).mono ?_
                rintro e w9 ⟨rfl, hG9, hE9⟩
                have HG9 := hid hG9
                have hG9l := hG9.lt
                have HG9l := hid hG9l
                have HB9 := hid (HB8.out.trans (hE9.below hAw HB8.out.size))
                clear hG9 hE9 HB8 HG8 HB7 HG7
                dsimp only at HG9
                go_wp2_with fail
                have HB10 := hid (HB9.out.alloc HB9.out.size (.cells #[.int .u8 120, .int .u8 121] 5 (2, 3)))
                have HG10 : Hd (GdAt (w9.alloc (.cells #[.int .u8 120, .int .u8 121] 5 (2, 3))) A ⟨st, W, sk, W0, false⟩) := hid (WsAt.other HG9.out (((Below.refl w9.heap.size w9).alloc (Nat.le_refl _) _).block A hG9l))
                have HBy : Hd (Byt (w9.alloc (.cells #[.int .u8 120, .int .u8 121] 5 (2, 3))) (.slice (some ⟨w9.heap.size, 0, none⟩) 2 2) [120, 121]) := hid (Byt.row (al_new w9 (.cells #[.int .u8 120, .int .u8 121] 5 (2, 3))) 2 2 rfl)
                generalize w9.alloc (.cells #[.int .u8 120, .int .u8 121] 5 (2, 3)) = w10 at *
                refine (gfeed_take ⟨st, W, sk, W0, false⟩ A _ [120, 121] w10 HG10.out rfl HBy.out (fun ad m c h _ => by simp at h; rw [← h.1]; exact Nat.ne_of_gt HG9l.out) (by decide) (W0_ok h1 (show (2 : Int) ≤ W by omega) h5) h2 (by show (2 : Int) ≤ W; omega) (by show (W : Int) ≤ 50; omega) (by show sk ≤ 50; omega)).mono ?_
                rintro e w11 ⟨rfl, hG11, hE11⟩
                have HB11 := hid (HB10.out.trans (hE11.below hAw HB10.out.size))
                have hxy := take_xy h1 (show (2 : Int) ≤ W by omega) h5
                have hf1 : (fedG ⟨st, W, sk, W0, false⟩ [120, 121]).1 = 2 ∧ (fedG ⟨st, W, sk, W0, false⟩ [120, 121]).2.1 = 0 := by
                  unfold fedG
                  dsimp only
                  rcases hq : takeW st W sk W0 [120, 121] 0 with ⟨yy, ff⟩
                  rw [hq] at hxy
                  dsimp only at hxy
                  subst hxy
                  exact ⟨rfl, rfl⟩
                rw [hf1.1, hf1.2]
                clear hG11 hE11 HB10 HG10 HBy hxy hf1 HB9 HG9
                go_wp2
                go_ret
                exact ⟨rfl, HB11.out⟩
      · have hps' : ¬ (p : Int) < s.size := by omega
        go_wp2
        go_ret
        exact ⟨rfl, HB.out⟩
    · have hk1' : ¬ (k : Int) ≤ zs.length := by omega
      go_wp2
      go_ret
      exact ⟨rfl, HB.out⟩
end Go.Proofs.Ytbifmhbkmnofiaa
