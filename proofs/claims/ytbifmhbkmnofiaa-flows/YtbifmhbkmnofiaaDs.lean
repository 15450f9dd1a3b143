import Derived.Test.YtbifmhbkmnofiaaDr
namespace Go.Proofs.Ytbifmhbkmnofiaa
open Go.RowKit
set_option linter.unusedVariables false
set_option linter.unusedSimpArgs false
/-- a slice whose elements are these values -/
def SlV (w : World) (v : Value) (us : List Value) : Prop := ∃ a cap, v = .slice a us.length cap ∧ (0 < us.length → ∃ db off, a = some ⟨db, off, none⟩ ∧ ∀ j u, us[j]? = some u → w.cell? ⟨db, off + j, none⟩ = some u)
theorem bts_take (s : ByteArray) (n : Nat) (h : n ≤ s.size) : bts (s.extract 0 n) = (bts s).take n := by
  unfold bts
  rw [← List.map_take]
  congr 1
  rw [ByteArray.data_extract, Array.toList_extract]
  simp [List.extract]
theorem bts_mid (s : ByteArray) (a n : Nat) (h : a + n ≤ s.size) : bts (s.extract a (a + n)) = ((bts s).drop a).take n := by
  unfold bts
  rw [← List.map_drop, ← List.map_take]
  congr 1
  rw [ByteArray.data_extract, Array.toList_extract]
  simp [List.extract]
theorem feed_mid (d : DS) (xs : List Int) (a n : Nat) (h : a + n ≤ xs.length) : feed (feed d (xs.take a)) ((xs.drop a).take n) = feed d (xs.take (a + n)) := by
  rw [← feed_append, List.take_add]
theorem Add_byt2 (s : DS) (xs : List Int) (B : Nat) (v : Value) (w : World) (hs : s.ok) (hS : StAt w B s) (hv : Byt w v xs) (hne : ∀ ad n cap, v = .slice (some ad) n cap → ad.block ≠ B) (hn : s.n + xs.length < 4611686018427387904) :
    Calls Try.prog 40 #[.pointer (some ⟨B, 0, none⟩), v] w fun e w' => e = .returned (.tuple #[]) ∧ StAt w' B (feed s xs) ∧ Ex B w w' := by
  rcases hv with ⟨rfl, a, cap, rfl⟩ | ⟨db, off, cap, rfl, hc⟩
  · exact (Add_empty s B cap a w).mono fun e w' ⟨h1, h2⟩ => ⟨h1, by rw [h2]; exact hS, by rw [h2]; exact Ex.refl _ _⟩
  · exact Add_any s xs B db off cap w hs hS (hne _ _ _ rfl) hc hn
set_option maxHeartbeats 400000 in
theorem SAdd2 (s : DS) (xs : List Int) (B : Nat) (v : Value) (w : World) (hs : s.ok) (hS : StAt w B s) (hv : Byt w v xs) (hne : ∀ ad n cap, v = .slice (some ad) n cap → ad.block ≠ B) (hn : s.n + xs.length < 4611686018427387904) (hl : xs.length ≤ 300) :
    Calls Try.prog 17 #[.pointer (some ⟨B, 0, none⟩), v] w fun e w' => e = .returned (.int .i64 0) ∧ StAt w' B (feed s xs) ∧ Ex B w w' := by
  have Hc := hid (Add_byt2 s xs B v w hs hS hv hne hn)
  obtain ⟨a, cap, rfl, _⟩ := hv.form
  have hl' : (xs.length : Int) ≤ 300 := by omega
  clear hv hne
  go_enter Try.func17, Try.ntmps17
  go_wp2_with fail
  refine Hc.out.mono ?_
  rintro e w2 ⟨rfl, hS2, hE2⟩
  go_wp2
  go_ret
  exact ⟨rfl, hS2, hE2⟩
set_option maxRecDepth 20000 in
set_option maxHeartbeats 1000000 in
theorem pieces_any (s : ByteArray) (vc va : Value) (zs : List Int) (bs : List Bool) (w : World) (hs : s.size ≤ 9223372036854775807) (hc : SlV w vc (zs.map (Value.int .i64))) (ha : SlV w va (bs.map Value.bool))
    (hz : ∀ z ∈ zs, -9223372036854775808 ≤ z ∧ z ≤ 9223372036854775807) (hzl : zs.length ≤ 9223372036854775807) (hbl : bs.length ≤ 9223372036854775807) :
    Calls Try.prog 4 #[.string s, vc, va] w fun e w' => e = .returned (.bool true) ∧ Below w.heap.size w w' := by
  obtain ⟨ac, capc, rfl, hc⟩ := hc
  obtain ⟨aa, capa, rfl, ha⟩ := ha
  rw [List.length_map] at hc ha
  have Hc := hid hc
  have Ha := hid ha
  have Hz := hid hz
  clear hc ha hz
  simp only [List.length_map]
  go_enter Try.func4, Try.ntmps4
  go_wp2_with fail
  refine (published_any _).mono ?_
  rintro e w1 ⟨rfl, hB1⟩
  go_wp2_with fail
  refine (NewSummer_any _).mono ?_
  rintro e w2 ⟨B, rfl, hS2, hB, hB2⟩
  have hC2 := hB1.trans (hB2.mono hB1.size)
  have hBw : w.heap.size ≤ B := Nat.le_trans hB1.size hB
  clear hB1 hB2 hB
  go_wp2_with fail
  refine (short_any s 300 _ (by omega) hs).mono ?_
  rintro e w' ⟨rfl, rfl⟩
  have hss := (cut_size s 300).1
  clear hs
  generalize cut s 300 = s at *
  go_wp2
  have hS0 : StAt w' B (feed DSN ((bts s).take 0)) := hS2
  clear hS2
  generalize hds : DSN = ds at *
  have hok : ds.ok := by rw [← hds]; exact DSN_ok
  have hdn : ds.n = 0 := by rw [← hds]; rfl
  have hsh : Hd (∀ xs, shaI xs = sumD (feed ds xs)) := hid (fun xs => by rw [← hds]; rfl)
  clear hds
  go_loopw [9, 10] (fun at_ i wr => ∃ p k : Nat, p ≤ s.size ∧ k ≤ 50 ∧ k ≤ zs.length ∧ at_ = .int .i64 p ∧ i = .int .i64 k ∧ StAt wr B (feed ds ((bts s).take p)) ∧ Below w.heap.size w wr) (fun _ i _ => 50 - (intOf i).toNat)
  case atStart => exact ⟨0, 0, by omega, by omega, by omega, rfl, rfl, hS0, hC2⟩
  case round =>
    clear hS0 hC2
    obtain ⟨p, k, hp, hk, hkz, rfl, rfl, hS, hC⟩ := hrel
    have hokp := feed_ok hok ((bts s).take p)
    have hfn := feed_n ds ((bts s).take p)
    have htl : ((bts s).take p).length = p := by rw [List.length_take, bts_len]; omega
    by_cases hlt : k < zs.length ∧ k < 50
    · obtain ⟨hlt1, hlt2⟩ := hlt
      obtain ⟨db, off, rfl, hcell⟩ := Hc.out (by omega)
      have c1 := hcell k (.int .i64 zs[k]) (by simp [List.getElem?_eq_getElem hlt1])
      have c2 : wr.cell? ⟨db, off + k, none⟩ = some (.int .i64 zs[k]) := by
        rw [hC.cell (World.block_lt_of_cell? w _ c1)]; exact c1
      clear hcell c1
      obtain ⟨hz0, hz1⟩ := Hz.out _ (List.getElem_mem hlt1)
      generalize zs[k] = z at *
      have hlt1' : (k : Int) < zs.length := by omega
      have hlt2' : (k : Int) < 50 := by omega
      go_wp2_with fail
      have hpb := pickI_bd z (s.size - p + 1) (by omega)
      refine (pick_any z _ _ hz0 hz1 (by omega) (by omega)).mono ?_
      rintro e w'' ⟨rfl, rfl⟩
      generalize pickI z (s.size - p + 1) = r at *
      obtain ⟨n, rfl⟩ := Int.eq_ofNat_of_zero_le hpb.1
      have hpn : p + n ≤ s.size := by omega
      have hpn' : (p : Int) + n ≤ s.size := by omega
      clear hpb
      go_wp2_with (refine wpList_bytes rfl _ rfl (s.extract p (p + n)) rfl ?_; intro w4 cap4 hB4 hz4 hb4)
      have hb5 : Byt w4 (.slice (some ⟨w''.heap.size, 0, none⟩) n cap4) (((bts s).drop p).take n) := by
        have h := hb4.out
        rw [bts_mid s p n hpn] at h
        have e1 : (s.extract p (p + n)).size = n := by rw [ByteArray.size_extract]; omega
        rw [e1] at h
        exact h
      have hl5 : (((bts s).drop p).take n).length = n := by rw [List.length_take, List.length_drop, bts_len]; omega
      have hlB := hS.lt
      refine (SAdd2 _ _ B _ _ hokp (hS.other (hB4.block B hlB)) hb5 (fun ad m c h => by simp at h; rw [← h.1]; simp; omega) (by omega) (by omega)).mono ?_
      rintro e w5 ⟨rfl, hS5, hE5⟩
      rw [feed_mid ds (bts s) p n (by rw [bts_len]; exact hpn)] at hS5
      have hC5 : Below w.heap.size w w5 := (hC.trans (hB4.mono hC.size)).trans (hE5.below hBw (by have := hC.size; omega))
      clear hb5 hb4 hS hE5 hl5 htl hfn hokp
      have htl : ((bts s).take (p + n)).length = p + n := by rw [List.length_take, bts_len]; omega
      have hokp := feed_ok hok ((bts s).take (p + n))
      have hfn := feed_n ds ((bts s).take (p + n))
      by_cases hask : k < bs.length
      · obtain ⟨db2, off2, rfl, hcell⟩ := Ha.out (by omega)
        have c3 := hcell k (.bool bs[k]) (by simp [List.getElem?_eq_getElem hask])
        have c4 : w5.cell? ⟨db2, off2 + k, none⟩ = some (.bool bs[k]) := by
          rw [hC5.cell (World.block_lt_of_cell? w _ c3)]; exact c3
        clear hcell c3
        have hask' : (k : Int) < bs.length := by omega
        cases hbk : bs[k] with
        | true =>
          rw [hbk] at c4
          clear hbk
          go_wp2_with fail
          refine (STot_any _ B _ hokp hS5 (by omega)).mono ?_
          rintro e w6 ⟨rfl, hB6⟩
          have hS6 := hS5.other (hB6.block B hS5.lt)
          have hC6 := hC5.trans (hB6.mono hC5.size)
          clear hS5 hC5 hB6 c4
          have hq := hid (hsh.out ((bts s).take (p + n)))
          go_wp2_with fail
          refine (SSum_yes _ _ (by rw [ByteArray.size_extract]; omega)).mono ?_
          rintro e w7 ⟨rfl, hB7⟩
          have hS7 := hS6.other (hB7.block B hS6.lt)
          have hC7 := hC6.trans (hB7.mono hC6.size)
          clear hS6 hC6 hB7
          rw [bts_take s (p + n) hpn, hq.out]
          generalize toS (sumD (feed ds ((bts s).take (p + n)))) = tt at *
          go_wp2
          exact ⟨⟨p + n, k + 1, hpn, by omega, by omega, by go_num, by go_num, hS7, hC7⟩, by simp [intOf]; omega⟩
        | false =>
          rw [hbk] at c4
          clear hbk
          go_wp2
          exact ⟨⟨p + n, k + 1, hpn, by omega, by omega, by go_num, by go_num, hS5, hC5⟩, by simp [intOf]; omega⟩
      · have hask' : ¬ (k : Int) < bs.length := by omega
        go_wp2
        exact ⟨⟨p + n, k + 1, hpn, by omega, by omega, by go_num, by go_num, hS5, hC5⟩, by simp [intOf]; omega⟩
    · have hp' : (p : Int) ≤ s.size := by omega
      have hlB := hS.lt
      by_cases hk1 : k < zs.length
      · have hk2 : ¬ k < 50 := fun h => hlt ⟨hk1, h⟩
        have hk1' : (k : Int) < zs.length := by omega
        have hk2' : ¬ (k : Int) < 50 := by omega
        clear hlt
        go_wp2_with (refine wpList_bytes rfl _ rfl (s.extract p s.size) rfl ?_; intro w4 cap4 hB4 hz4 hb4)
        have hb5 : Byt w4 (.slice (some ⟨wr.heap.size, 0, none⟩) (s.size - p) cap4) (((bts s).drop p).take (s.size - p)) := by
          have h := hb4.out
          have e1 : (s.extract p s.size).size = s.size - p := by rw [ByteArray.size_extract]; omega
          rw [e1] at h
          have e2 := bts_mid s p (s.size - p) (by omega)
          rw [show p + (s.size - p) = s.size by omega] at e2
          rw [e2] at h
          exact h
        have hl5 : (((bts s).drop p).take (s.size - p)).length = s.size - p := by rw [List.length_take, List.length_drop, bts_len]; omega
        refine (SAdd2 _ _ B _ _ hokp (hS.other (hB4.block B hlB)) hb5 (fun ad m c h => by simp at h; rw [← h.1]; simp; omega) (by omega) (by omega)).mono ?_
        rintro e w5 ⟨rfl, hS5, hE5⟩
        rw [feed_mid ds (bts s) p (s.size - p) (by rw [bts_len]; omega), show p + (s.size - p) = s.size by omega, List.take_of_length_le (by rw [bts_len]; omega)] at hS5
        have hC5 : Below w.heap.size w w5 := (hC.trans (hB4.mono hC.size)).trans (hE5.below hBw (by have := hC.size; omega))
        clear hb5 hb4 hS hE5 hl5 htl hfn hokp
        have hokp := feed_ok hok (bts s)
        have hfn := feed_n ds (bts s)
        rw [bts_len] at hfn
        go_wp2_with fail
        refine (STot_any _ B _ hokp hS5 (by omega)).mono ?_
        rintro e w6 ⟨rfl, hB6⟩
        have hC6 := hC5.trans (hB6.mono hC5.size)
        clear hS5 hC5 hB6
        have hq := hid (hsh.out (bts s))
        have hts : (toS (sumD (feed ds (bts s)))).size = 32 := by rw [toS_size, sumD_len]
        go_wp2_with fail
        refine (SSum_yes _ _ hss).mono ?_
        rintro e w7 ⟨rfl, hB7⟩
        have hC7 := hC6.trans (hB7.mono hC6.size)
        clear hC6 hB7
        rw [hq.out]
        generalize toS (sumD (feed ds (bts s))) = tt at *
        go_wp2
        go_ret
        exact ⟨rfl, hC7⟩
      · have hk1' : ¬ (k : Int) < zs.length := by omega
        clear hlt
        go_wp2_with (refine wpList_bytes rfl _ rfl (s.extract p s.size) rfl ?_; intro w4 cap4 hB4 hz4 hb4)
        have hb5 : Byt w4 (.slice (some ⟨wr.heap.size, 0, none⟩) (s.size - p) cap4) (((bts s).drop p).take (s.size - p)) := by
          have h := hb4.out
          have e1 : (s.extract p s.size).size = s.size - p := by rw [ByteArray.size_extract]; omega
          rw [e1] at h
          have e2 := bts_mid s p (s.size - p) (by omega)
          rw [show p + (s.size - p) = s.size by omega] at e2
          rw [e2] at h
          exact h
        have hl5 : (((bts s).drop p).take (s.size - p)).length = s.size - p := by rw [List.length_take, List.length_drop, bts_len]; omega
        refine (SAdd2 _ _ B _ _ hokp (hS.other (hB4.block B hlB)) hb5 (fun ad m c h => by simp at h; rw [← h.1]; simp; omega) (by omega) (by omega)).mono ?_
        rintro e w5 ⟨rfl, hS5, hE5⟩
        rw [feed_mid ds (bts s) p (s.size - p) (by rw [bts_len]; omega), show p + (s.size - p) = s.size by omega, List.take_of_length_le (by rw [bts_len]; omega)] at hS5
        have hC5 : Below w.heap.size w w5 := (hC.trans (hB4.mono hC.size)).trans (hE5.below hBw (by have := hC.size; omega))
        clear hb5 hb4 hS hE5 hl5 htl hfn hokp
        have hokp := feed_ok hok (bts s)
        have hfn := feed_n ds (bts s)
        rw [bts_len] at hfn
        go_wp2_with fail
        refine (STot_any _ B _ hokp hS5 (by omega)).mono ?_
        rintro e w6 ⟨rfl, hB6⟩
        have hC6 := hC5.trans (hB6.mono hC5.size)
        clear hS5 hC5 hB6
        have hq := hid (hsh.out (bts s))
        have hts : (toS (sumD (feed ds (bts s)))).size = 32 := by rw [toS_size, sumD_len]
        go_wp2_with fail
        refine (SSum_yes _ _ hss).mono ?_
        rintro e w7 ⟨rfl, hB7⟩
        have hC7 := hC6.trans (hB7.mono hC6.size)
        clear hC6 hB7
        rw [hq.out]
        generalize toS (sumD (feed ds (bts s))) = tt at *
        go_wp2
        go_ret
        exact ⟨rfl, hC7⟩
end Go.Proofs.Ytbifmhbkmnofiaa
