import Derived.Test.YtbifmhbkmnofiaaKd
namespace Go.Proofs.Ytbifmhbkmnofiaa
open Go.RowKit
set_option linter.unusedVariables false
set_option linter.unusedSimpArgs false
theorem drawnF_res (f : Fnt) (k n : Int) (s t : ByteArray) (h : 5 < pickI k 8) : drawnF f k n s t = (⟨reseedOf f.g (bts (seedS s) ++ bts (cut t 64)), 1⟩, ⟨#[]⟩, 0) := by
  unfold drawnF; rw [if_pos h]
theorem drawnF_rd (f : Fnt) (k n : Int) (s t : ByteArray) (h : ¬ 5 < pickI k 8) (h2 : f.r ≤ 8) : drawnF f k n s t = (⟨behindF f.g f.r (pickI n 201).toNat (bts (cut s 64)), f.r + 1⟩, toS (bytesF f.g (pickI n 201).toNat (bts (cut s 64))), 0) := by
  unfold drawnF; rw [if_neg h, if_pos h2]
theorem drawnF_ov (f : Fnt) (k n : Int) (s t : ByteArray) (h : ¬ 5 < pickI k 8) (h2 : ¬ f.r ≤ 8) : drawnF f k n s t = (f, ⟨#[]⟩, 3) := by
  unfold drawnF; rw [if_neg h, if_neg h2]
theorem StV.cells {w w' : World} {db off cap : Nat} {ss : List Stp} {k : Nat} (hlt : k < ss.length) (hc : ∀ (j : Nat) (hj : j < ss.length), w.cell? ⟨db, off + j * 4, none⟩ = some (.int .i64 ss[j].k) ∧ w.cell? ⟨db, off + j * 4 + 1, none⟩ = some (.int .i64 ss[j].n) ∧ w.cell? ⟨db, off + j * 4 + 2, none⟩ = some (.string ss[j].s) ∧ w.cell? ⟨db, off + j * 4 + 3, none⟩ = some (.string ss[j].t)) (hb : Below w.heap.size w w') :
    w'.cell? ⟨db, off + k * 4, none⟩ = some (.int .i64 ss[k].k) ∧ w'.cell? ⟨db, off + k * 4 + 1, none⟩ = some (.int .i64 ss[k].n) ∧ w'.cell? ⟨db, off + k * 4 + 2, none⟩ = some (.string ss[k].s) ∧ w'.cell? ⟨db, off + k * 4 + 3, none⟩ = some (.string ss[k].t) := by
  obtain ⟨c0, c1, c2, c3⟩ := hc k hlt
  exact ⟨by rw [hb.cell (World.block_lt_of_cell? w _ c0)]; exact c0, by rw [hb.cell (World.block_lt_of_cell? w _ c1)]; exact c1, by rw [hb.cell (World.block_lt_of_cell? w _ c2)]; exact c2, by rw [hb.cell (World.block_lt_of_cell? w _ c3)]; exact c3⟩
set_option maxRecDepth 20000 in
set_option maxHeartbeats 4000000 in
theorem alike_any (kind : Int) (ent nonce name : ByteArray) (v vo : Value) (ss os : List Stp) (w : World) (hv : StV w v ss) (hok : ∀ x ∈ ss, x.ok) (hsl : ss.length ≤ 9223372036854775807) (hvo : StV w vo os) (hoko : ∀ x ∈ os, x.ok) (hosl : os.length ≤ 9223372036854775807)
    (hk0 : -9223372036854775808 ≤ kind) (hk1 : kind ≤ 9223372036854775807) (he : ent.size ≤ 9223372036854775000) (hno : nonce.size ≤ 9223372036854775000) (hna : name.size ≤ 9223372036854775000) :
    Calls Try.prog 6 #[.int .i64 kind, .string ent, .string nonce, .string name, v, vo] w fun e w' => e = .returned (.bool true) ∧ Below w.heap.size w w' := by
  obtain ⟨av, capv, rfl, hvc⟩ := hv
  obtain ⟨ao, capo, rfl, hoc⟩ := hvo
  have Hvc := hid hvc
  have Hoc := hid hoc
  have Hok := hid hok
  have Hoko := hid hoko
  clear hvc hok hoc hoko
  go_enter Try.func6, Try.ntmps6
  go_wp2_with fail
  refine (begun_any w).mono ?_
  rintro e w1 ⟨rfl, hB1⟩
  go_wp2_with fail
  refine (pick_any kind 2 _ hk0 hk1 (by omega) (by omega)).mono ?_
  rintro e w1' ⟨rfl, rfl⟩
  have hpb := pickI_bd kind 2 (by omega)
  have hK : 1 + pickI kind 2 = 1 ∨ 1 + pickI kind 2 = 2 := by omega
  have hK1 : 0 ≤ pickI kind 2 := hpb.1
  have hK2 : pickI kind 2 ≤ 1 := by omega
  have HK := hid hK
  clear hpb hK
  generalize pickI kind 2 = q at *
  go_wp2_with fail
  refine (short_any nonce 64 _ (by omega) (by omega)).mono ?_
  rintro e w1'' ⟨rfl, rfl⟩
  have hn64 := cut64 nonce
  generalize cut nonce 64 = nn at *
  go_wp2_with fail
  refine (short_any name 64 _ (by omega) (by omega)).mono ?_
  rintro e w1c ⟨rfl, rfl⟩
  have hm64 := cut64 name
  generalize cut name 64 = nm at *
  go_wp2_with fail
  refine (seed_any ent _ he).mono ?_
  rintro e w1d ⟨rfl, rfl⟩
  go_wp2_with fail
  refine (new_any (1 + q) (seedS ent) nn nm _ HK.out (seedS_may ent) hn64 hm64).mono ?_
  rintro e w2 ⟨A1, B1, rfl, hA1, hG1, hF1, hB2⟩
  have hC2 := hB1.trans (hB2.mono hB1.size)
  have hz1 := hB1.size
  clear hB1 hB2
  go_wp2_with fail
  refine (seed_any ent _ he).mono ?_
  rintro e w2' ⟨rfl, rfl⟩
  go_wp2_with fail
  refine (new_any (1 + q) (seedS ent) nn nm _ HK.out (seedS_may ent) hn64 hm64).mono ?_
  rintro e w3 ⟨A2, B2, rfl, hA2, hG2, hF2, hB3⟩
  have hC3 := hC2.trans (hB3.mono hC2.size)
  have hF1' := hF1.below hB3
  have hlA1 := hF1.lt
  have hlB1 := hF1.gen.lt
  have hz2 := hC2.size
  have hz3 := hB3.size
  clear hC2 hB3 hF1
  go_wp2_with fail
  have hpb := pickI_bd (1 + q) 2 (by omega)
  have hK3 : 1 + pickI (1 + q) 2 = 1 ∨ 1 + pickI (1 + q) 2 = 2 := by omega
  have hK4 : 0 ≤ pickI (1 + q) 2 := hpb.1
  have hK5 : pickI (1 + q) 2 ≤ 1 := by omega
  have HK3 := hid hK3
  clear hpb hK3
  refine (pick_any (1 + q) 2 _ (by omega) (by omega) (by omega) (by omega)).mono ?_
  rintro e w3' ⟨rfl, rfl⟩
  generalize pickI (1 + q) 2 = q3 at *
  go_wp2_with fail
  refine (seed_any ent _ he).mono ?_
  rintro e w3'' ⟨rfl, rfl⟩
  go_wp2_with fail
  refine (new_any (1 + q3) (seedS ent) nn nm _ HK3.out (seedS_may ent) hn64 hm64).mono ?_
  rintro e w4 ⟨A3, B3, rfl, hA3, hG3, hF3, hB4⟩
  have hC4 := hC3.trans (hB4.mono hC3.size)
  have hF1'' := hF1'.below hB4
  have hF2'' := hF2.below hB4
  have hlA2 := hF2.lt
  have hlB2 := hF2.gen.lt
  have hz4 := hC3.size
  clear hC3 hB4 hF1' hF2
  have hr1 : (⟨seedOf (1 + q) (bts (seedS ent) ++ bts nn ++ bts nm), 1⟩ : Fnt).r = 0 + 1 := rfl
  generalize (⟨seedOf (1 + q) (bts (seedS ent) ++ bts nn ++ bts nm), 1⟩ : Fnt) = f0 at *
  generalize (⟨seedOf (1 + q3) (bts (seedS ent) ++ bts nn ++ bts nm), 1⟩ : Fnt) = g0 at *
  have d12 : A1 ≠ A2 ∧ A1 ≠ B2 ∧ B1 ≠ A2 ∧ B1 ≠ B2 := by omega
  have d13 : A1 ≠ A3 ∧ A1 ≠ B3 ∧ B1 ≠ A3 ∧ B1 ≠ B3 := by omega
  have d23 : A2 ≠ A3 ∧ A2 ≠ B3 ∧ B2 ≠ A3 ∧ B2 ≠ B3 := by omega
  have D12 := hid d12
  have D13 := hid d13
  have D23 := hid d23
  have hw1 : w.heap.size ≤ A1 := by omega
  have hw2 : w.heap.size ≤ B1 := by omega
  have hw3 : w.heap.size ≤ A2 := by omega
  have hw4 : w.heap.size ≤ B2 := by omega
  have hw5 : w.heap.size ≤ A3 := by omega
  have hw6 : w.heap.size ≤ B3 := by omega
  clear hA1 hA2 hG1 hG2 hA3 hG3 hlA1 hlB1 hlA2 hlB2 hz1 hz2 hz3 hz4 d12 d13 d23
  have HC4 := hid hC4
  have HF1 := hid hF1''
  have HF2 := hid hF2''
  have HF3 := hid hF3
  clear hC4 hF1'' hF2'' hF3
  go_wp2
  go_loopw [21, 22] (fun rd i wr => ∃ (k r : Nat) (f g : Fnt), k ≤ ss.length ∧ k ≤ 30 ∧ i = .int .i64 k ∧ rd = .int .i64 r ∧ f.r = r + 1 ∧ r ≤ 8 ∧ FtAt wr A1 B1 f ∧ FtAt wr A2 B2 f ∧ FtAt wr A3 B3 g ∧ Below w.heap.size w wr) (fun _ i _ => 30 - (intOf i).toNat)
  case atStart => exact ⟨0, 0, f0, g0, by omega, by omega, rfl, rfl, hr1, by omega, HF1.out, HF2.out, HF3.out, HC4.out⟩
  case round =>
    clear HC4 HF1 HF2 HF3 hr1
    obtain ⟨k, r, f, g, hk, hk30, rfl, rfl, hfr, hr8, hF1, hF2, hF3, hC⟩ := hrel
    have HF1 := hid hF1
    have HF2 := hid hF2
    have HF3 := hid hF3
    have HC := hid hC
    have HFOK := hid hF1.ok
    clear hF1 hF2 hF3 hC
    by_cases hlt1 : k < ss.length
    · by_cases hlt2 : k < 30
      · have hlt1' : (k : Int) < ss.length := by omega
        have hlt2' : (k : Int) < 30 := by omega
        obtain ⟨db, off, rfl, hc⟩ := Hvc.out (by omega)
        have hxk := Hok.out ss[k] (List.getElem_mem hlt1)
        have Hc := hid hc
        obtain ⟨d0, d1, d2, d3⟩ := StV.cells (cap := 0) hlt1 hc HC.out
        clear hc
        obtain ⟨x, hx⟩ : ∃ x, ss[k] = x := ⟨_, rfl⟩
        have Hx := hid hx
        rw [hx] at d0 d1 d2 d3 hxk
        clear hx
        go_wp2_with fail
        refine (drawn_any f x.k x.n x.s x.t A1 B1 _ HF1.out hxk.k0 hxk.k1 hxk.n0 hxk.n1 hxk.s1 hxk.t1).mono ?_
        rintro e w5 ⟨rfl, hF5, hE5⟩
        have hlA2 := HF2.out.lt
        have hlB2 := HF2.out.gen.lt
        have hlA3 := HF3.out.lt
        have hlB3 := HF3.out.gen.lt
        have HG2 := hid (HF2.out.other (hE5.block A2 hlA2 (Ne.symm D12.out.1) (Ne.symm D12.out.2.2.1)) (hE5.block B2 hlB2 (Ne.symm D12.out.2.1) (Ne.symm D12.out.2.2.2)))
        have HG3 := hid (HF3.out.other (hE5.block A3 hlA3 (Ne.symm D13.out.1) (Ne.symm D13.out.2.2.1)) (hE5.block B3 hlB3 (Ne.symm D13.out.2.1) (Ne.symm D13.out.2.2.2)))
        have HC5 := hid (HC.out.trans (hE5.below hw1 hw2 HC.out.size))
        have HG1 := hid hF5
        clear d0 d1 d2 d3 hF5 hE5 HF1 HF2 HF3 HC
        by_cases hlo : k < os.length
        · have hlo' : (k : Int) < os.length := by omega
          obtain ⟨dbo, offo, rfl, hco⟩ := Hoc.out (by omega)
          have hyk := Hoko.out os[k] (List.getElem_mem hlo)
          obtain ⟨o0, o1, o2, o3⟩ := StV.cells (cap := 0) hlo hco HC5.out
          clear hco
          generalize os[k] = y at *
          go_wp2_with fail
          refine (drawn_any g y.k y.n y.s y.t A3 B3 _ HG3.out hyk.k0 hyk.k1 hyk.n0 hyk.n1 hyk.s1 hyk.t1).mono ?_
          rintro e w6 ⟨rfl, hF6, hE6⟩
          have hlA1 := HG1.out.lt
          have hlB1 := HG1.out.gen.lt
          have hlA2 := HG2.out.lt
          have hlB2 := HG2.out.gen.lt
          have HJ1 := hid (HG1.out.other (hE6.block A1 hlA1 D13.out.1 D13.out.2.1) (hE6.block B1 hlB1 D13.out.2.2.1 D13.out.2.2.2))
          have HJ2 := hid (HG2.out.other (hE6.block A2 hlA2 D23.out.1 D23.out.2.1) (hE6.block B2 hlB2 D23.out.2.2.1 D23.out.2.2.2))
          have HC6 := hid (HC5.out.trans (hE6.below hw5 hw6 HC5.out.size))
          have HJ3 := hid hF6
          clear o0 o1 o2 o3 hF6 hE6 HG1 HG2 HG3 HC5 hyk
          generalize drawnF g y.k y.n y.s y.t = gg at *
          obtain ⟨d0, d1, d2, d3⟩ := StV.cells (cap := 0) hlt1 Hc.out HC6.out
          rw [Hx.out] at d0 d1 d2 d3
          go_wp2_with fail
          refine (drawn_any f x.k x.n x.s x.t A2 B2 _ HJ2.out hxk.k0 hxk.k1 hxk.n0 hxk.n1 hxk.s1 hxk.t1).mono ?_
          rintro e w7 ⟨rfl, hF7, hE7⟩
          have hlA1 := HJ1.out.lt
          have hlB1 := HJ1.out.gen.lt
          have hlA3 := HJ3.out.lt
          have hlB3 := HJ3.out.gen.lt
          have HL1 := hid (HJ1.out.other (hE7.block A1 hlA1 D12.out.1 D12.out.2.1) (hE7.block B1 hlB1 D12.out.2.2.1 D12.out.2.2.2))
          have HL3 := hid (HJ3.out.other (hE7.block A3 hlA3 (Ne.symm D23.out.1) (Ne.symm D23.out.2.2.1)) (hE7.block B3 hlB3 (Ne.symm D23.out.2.1) (Ne.symm D23.out.2.2.2)))
          have HC7 := hid (HC6.out.trans (hE7.below hw3 hw4 HC6.out.size))
          have HL2 := hid hF7
          clear d0 d1 d2 d3 hF7 hE7 HJ1 HJ2 HJ3 HC6
          obtain ⟨d0, d1, d2, d3⟩ := StV.cells (cap := 0) hlt1 Hc.out HC7.out
          rw [Hx.out] at d0 d1 d2 d3
          clear d2 d3
          have hpk := pickI_bd x.k 8 (by omega)
          by_cases hP : 5 < pickI x.k 8
          · have hD := drawnF_res f x.k x.n x.s x.t hP
            rw [hD] at HL1 HL2 ⊢
            clear hD
            dsimp only at HL1 HL2 ⊢
            generalize reseedOf f.g (bts (seedS x.s) ++ bts (cut x.t 64)) = g' at *
            go_wp2_with fail
            refine (pick_any x.k 8 _ hxk.k0 hxk.k1 (by omega) (by omega)).mono ?_
            rintro e w8 ⟨rfl, rfl⟩
            generalize pickI x.k 8 = pk at *
            go_wp2
            exact ⟨⟨k + 1, 0, ⟨g', 1⟩, gg.1, by omega, by omega, by go_num, rfl, rfl, by omega, HL1.out, HL2.out, HL3.out, HC7.out⟩, by simp [intOf]; omega⟩
          · have hpn := pickI_bd x.n 201 (by omega)
            by_cases hQ : f.r ≤ 8
            · have hD := drawnF_rd f x.k x.n x.s x.t hP hQ
              have hbl := bytesF_len HL1.out.ok
              rw [hD] at HL1 HL2 ⊢
              clear hD
              dsimp only at HL1 HL2 ⊢
              obtain ⟨m, hm⟩ := Int.eq_ofNat_of_zero_le hpn.1
              have hgok : f.g.ok := HFOK.out
              have htl : (toS (bytesF f.g (pickI x.n 201).toNat (bts (cut x.s 64)))).size = (pickI x.n 201).toNat := by rw [toS_size, bytesF_len hgok]
              generalize toS (bytesF f.g (pickI x.n 201).toNat (bts (cut x.s 64))) = bb at *
              generalize behindF f.g f.r (pickI x.n 201).toNat (bts (cut x.s 64)) = g' at *
              clear hbl
              go_wp2_with fail
              refine (pick_any x.k 8 _ hxk.k0 hxk.k1 (by omega) (by omega)).mono ?_
              rintro e w8 ⟨rfl, rfl⟩
              generalize pickI x.k 8 = pk at *
              have hr9 : r < 8 := by omega
              go_wp2_with fail
              refine (pick_any x.n 201 _ hxk.n0 hxk.n1 (by omega) (by omega)).mono ?_
              rintro e w8 ⟨rfl, rfl⟩
              rw [hm] at htl ⊢
              rw [Int.toNat_natCast] at htl
              have hbm : (bb.size : Int) = (m : Int) := by omega
              go_wp2
              exact ⟨⟨k + 1, r + 1, ⟨g', f.r + 1⟩, gg.1, by omega, by omega, by go_num, by go_num, by dsimp only; omega, by omega, HL1.out, HL2.out, HL3.out, HC7.out⟩, by simp [intOf]; omega⟩
            · have hD := drawnF_ov f x.k x.n x.s x.t hP hQ
              rw [hD] at HL1 HL2 ⊢
              clear hD
              dsimp only at HL1 HL2 ⊢
              obtain rfl : r = 8 := by omega
              go_wp2_with fail
              refine (pick_any x.k 8 _ hxk.k0 hxk.k1 (by omega) (by omega)).mono ?_
              rintro e w8 ⟨rfl, rfl⟩
              generalize pickI x.k 8 = pk at *
              go_wp2
              exact ⟨⟨k + 1, 8, f, gg.1, by omega, by omega, by go_num, rfl, hfr, by omega, HL1.out, HL2.out, HL3.out, HC7.out⟩, by simp [intOf]; omega⟩
        · have hlo' : ¬ (k : Int) < os.length := by omega
          have HJ1 := HG1
          have HJ2 := HG2
          have HC6 := HC5
          have HJ3 := HG3
          clear HG1 HG2 HG3 HC5
          obtain ⟨w6, hw6e⟩ : ∃ w6, w6 = w5 := ⟨_, rfl⟩
          subst hw6e
          obtain ⟨d0, d1, d2, d3⟩ := StV.cells (cap := 0) hlt1 Hc.out HC6.out
          rw [Hx.out] at d0 d1 d2 d3
          go_wp2_with fail
          refine (drawn_any f x.k x.n x.s x.t A2 B2 _ HJ2.out hxk.k0 hxk.k1 hxk.n0 hxk.n1 hxk.s1 hxk.t1).mono ?_
          rintro e w7 ⟨rfl, hF7, hE7⟩
          have hlA1 := HJ1.out.lt
          have hlB1 := HJ1.out.gen.lt
          have hlA3 := HJ3.out.lt
          have hlB3 := HJ3.out.gen.lt
          have HL1 := hid (HJ1.out.other (hE7.block A1 hlA1 D12.out.1 D12.out.2.1) (hE7.block B1 hlB1 D12.out.2.2.1 D12.out.2.2.2))
          have HL3 := hid (HJ3.out.other (hE7.block A3 hlA3 (Ne.symm D23.out.1) (Ne.symm D23.out.2.2.1)) (hE7.block B3 hlB3 (Ne.symm D23.out.2.1) (Ne.symm D23.out.2.2.2)))
          have HC7 := hid (HC6.out.trans (hE7.below hw3 hw4 HC6.out.size))
          have HL2 := hid hF7
          clear d0 d1 d2 d3 hF7 hE7 HJ1 HJ2 HJ3 HC6
          obtain ⟨d0, d1, d2, d3⟩ := StV.cells (cap := 0) hlt1 Hc.out HC7.out
          rw [Hx.out] at d0 d1 d2 d3
          clear d2 d3
          have hpk := pickI_bd x.k 8 (by omega)
          by_cases hP : 5 < pickI x.k 8
          · have hD := drawnF_res f x.k x.n x.s x.t hP
            rw [hD] at HL1 HL2 ⊢
            clear hD
            dsimp only at HL1 HL2 ⊢
            generalize reseedOf f.g (bts (seedS x.s) ++ bts (cut x.t 64)) = g' at *
            go_wp2_with fail
            refine (pick_any x.k 8 _ hxk.k0 hxk.k1 (by omega) (by omega)).mono ?_
            rintro e w8 ⟨rfl, rfl⟩
            generalize pickI x.k 8 = pk at *
            go_wp2
            exact ⟨⟨k + 1, 0, ⟨g', 1⟩, g, by omega, by omega, by go_num, rfl, rfl, by omega, HL1.out, HL2.out, HL3.out, HC7.out⟩, by simp [intOf]; omega⟩
          · have hpn := pickI_bd x.n 201 (by omega)
            by_cases hQ : f.r ≤ 8
            · have hD := drawnF_rd f x.k x.n x.s x.t hP hQ
              have hbl := bytesF_len HL1.out.ok
              rw [hD] at HL1 HL2 ⊢
              clear hD
              dsimp only at HL1 HL2 ⊢
              obtain ⟨m, hm⟩ := Int.eq_ofNat_of_zero_le hpn.1
              have hgok : f.g.ok := HFOK.out
              have htl : (toS (bytesF f.g (pickI x.n 201).toNat (bts (cut x.s 64)))).size = (pickI x.n 201).toNat := by rw [toS_size, bytesF_len hgok]
              generalize toS (bytesF f.g (pickI x.n 201).toNat (bts (cut x.s 64))) = bb at *
              generalize behindF f.g f.r (pickI x.n 201).toNat (bts (cut x.s 64)) = g' at *
              clear hbl
              go_wp2_with fail
              refine (pick_any x.k 8 _ hxk.k0 hxk.k1 (by omega) (by omega)).mono ?_
              rintro e w8 ⟨rfl, rfl⟩
              generalize pickI x.k 8 = pk at *
              have hr9 : r < 8 := by omega
              go_wp2_with fail
              refine (pick_any x.n 201 _ hxk.n0 hxk.n1 (by omega) (by omega)).mono ?_
              rintro e w8 ⟨rfl, rfl⟩
              rw [hm] at htl ⊢
              rw [Int.toNat_natCast] at htl
              have hbm : (bb.size : Int) = (m : Int) := by omega
              go_wp2
              exact ⟨⟨k + 1, r + 1, ⟨g', f.r + 1⟩, g, by omega, by omega, by go_num, by go_num, by dsimp only; omega, by omega, HL1.out, HL2.out, HL3.out, HC7.out⟩, by simp [intOf]; omega⟩
            · have hD := drawnF_ov f x.k x.n x.s x.t hP hQ
              rw [hD] at HL1 HL2 ⊢
              clear hD
              dsimp only at HL1 HL2 ⊢
              obtain rfl : r = 8 := by omega
              go_wp2_with fail
              refine (pick_any x.k 8 _ hxk.k0 hxk.k1 (by omega) (by omega)).mono ?_
              rintro e w8 ⟨rfl, rfl⟩
              generalize pickI x.k 8 = pk at *
              go_wp2
              exact ⟨⟨k + 1, 8, f, g, by omega, by omega, by go_num, rfl, hfr, by omega, HL1.out, HL2.out, HL3.out, HC7.out⟩, by simp [intOf]; omega⟩
      · have hlt1' : (k : Int) < ss.length := by omega
        have hlt2' : ¬ (k : Int) < 30 := by omega
        go_wp2
        go_ret
        exact ⟨rfl, HC.out⟩
    · have hlt1' : ¬ (k : Int) < ss.length := by omega
      go_wp2
      go_ret
      exact ⟨rfl, HC.out⟩
end Go.Proofs.Ytbifmhbkmnofiaa
