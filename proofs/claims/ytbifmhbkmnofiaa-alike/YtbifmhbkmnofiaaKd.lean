import Derived.Test.YtbifmhbkmnofiaaKc
namespace Go.Proofs.Ytbifmhbkmnofiaa
open Go.RowKit
set_option linter.unusedVariables false
set_option linter.unusedSimpArgs false
/-- a step: kind, number, two texts -/
structure Stp where
  k : Int
  n : Int
  s : ByteArray
  t : ByteArray
structure Stp.ok (x : Stp) : Prop where
  k0 : -9223372036854775808 ≤ x.k
  k1 : x.k ≤ 9223372036854775807
  n0 : -9223372036854775808 ≤ x.n
  n1 : x.n ≤ 9223372036854775807
  s1 : x.s.size ≤ 9223372036854775000
  t1 : x.t.size ≤ 9223372036854775000
/-- a list of steps -/
def StV (w : World) (v : Value) (ss : List Stp) : Prop := ∃ a cap, v = .slice a ss.length cap ∧ (0 < ss.length → ∃ db off, a = some ⟨db, off, none⟩ ∧ ∀ (j : Nat) (hj : j < ss.length),
  w.cell? ⟨db, off + j * 4, none⟩ = some (.int .i64 ss[j].k) ∧ w.cell? ⟨db, off + j * 4 + 1, none⟩ = some (.int .i64 ss[j].n) ∧ w.cell? ⟨db, off + j * 4 + 2, none⟩ = some (.string ss[j].s) ∧ w.cell? ⟨db, off + j * 4 + 3, none⟩ = some (.string ss[j].t))
theorem drawnF_r (f : Fnt) (x : Stp) : (drawnF f x.k x.n x.s x.t).1.r ≤ f.r + 1 := by
  unfold drawnF
  split
  · dsimp only; omega
  · split
    · dsimp only; omega
    · dsimp only; omega
set_option maxRecDepth 20000 in
set_option maxHeartbeats 2000000 in
theorem begins_any (kind few many : Int) (ent ex : ByteArray) (v : Value) (ss : List Stp) (w : World) (hv : StV w v ss) (hok : ∀ x ∈ ss, x.ok) (hsl : ss.length ≤ 9223372036854775807)
    (hk0 : -9223372036854775808 ≤ kind) (hk1 : kind ≤ 9223372036854775807) (hf0 : -9223372036854775808 ≤ few) (hf1 : few ≤ 9223372036854775807) (hm0 : -9223372036854775808 ≤ many) (hm1 : many ≤ 9223372036854775807)
    (he : ent.size ≤ 9223372036854775000) (hx : ex.size ≤ 9223372036854775000) :
    Calls Try.prog 7 #[.int .i64 kind, .string ent, v, .int .i64 few, .int .i64 many, .string ex] w fun e w' => e = .returned (.bool true) ∧ Below w.heap.size w w' := by
  obtain ⟨av, capv, rfl, hvc⟩ := hv
  have Hvc := hid hvc
  have Hok := hid hok
  clear hvc hok
  go_enter Try.func7, Try.ntmps7
  go_wp2_with fail
  refine (begun_any w).mono ?_
  rintro e w1 ⟨rfl, hB1⟩
  go_wp2_with fail
  refine (pick_any kind 2 _ hk0 hk1 (by omega) (by omega)).mono ?_
  rintro e w1' ⟨rfl, rfl⟩
  have hpb := pickI_bd kind 2 (by omega)
  have hK : 1 + pickI kind 2 = 1 ∨ 1 + pickI kind 2 = 2 := by omega
  have hK1 : 0 ≤ pickI kind 2 := hpb.1
  have hK2 : pickI kind 2 ≤ 1 := by omega
  have HK := hid hK
  clear hpb hK
  generalize pickI kind 2 = q at *
  go_wp2_with fail
  refine (seed_any ent _ he).mono ?_
  rintro e w1'' ⟨rfl, rfl⟩
  go_wp2_with fail
  refine (new_any (1 + q) (seedS ent) ⟨#[]⟩ ⟨#[]⟩ _ HK.out (seedS_may ent) (by decide) (by decide)).mono ?_
  rintro e w2 ⟨A1, B1, rfl, hA1, hG1, hF1, hB2⟩
  have hC2 := hB1.trans (hB2.mono hB1.size)
  have hz1 := hB1.size
  clear hB1 hB2
  go_wp2_with fail
  refine (seed_any ent _ he).mono ?_
  rintro e w2' ⟨rfl, rfl⟩
  go_wp2_with fail
  refine (new_any (1 + q) (seedS ent) ⟨#[]⟩ ⟨#[]⟩ _ HK.out (seedS_may ent) (by decide) (by decide)).mono ?_
  rintro e w3 ⟨A2, B2, rfl, hA2, hG2, hF2, hB3⟩
  have hC3 := hC2.trans (hB3.mono hC2.size)
  have hF1' := hF1.below hB3
  have hlA1 := hF1.lt
  have hlB1 := hF1.gen.lt
  have hz2 := hC2.size
  have hn1 := hF1.ne
  have hn2 := hF2.ne
  clear hC2 hB3 hF1
  have hr1 : (⟨seedOf (1 + q) (bts (seedS ent) ++ bts ⟨#[]⟩ ++ bts ⟨#[]⟩), 1⟩ : Fnt).r ≤ 0 + 1 := Nat.le_refl 1
  generalize (⟨seedOf (1 + q) (bts (seedS ent) ++ bts ⟨#[]⟩ ++ bts ⟨#[]⟩), 1⟩ : Fnt) = f0 at *
  have hd1 : A1 ≠ A2 := by omega
  have hd2 : A1 ≠ B2 := by omega
  have hd3 : B1 ≠ A2 := by omega
  have hd4 : B1 ≠ B2 := by omega
  have hw1 : w.heap.size ≤ A1 := by omega
  have hw2 : w.heap.size ≤ B1 := by omega
  have hw3 : w.heap.size ≤ A2 := by omega
  have hw4 : w.heap.size ≤ B2 := by omega
  clear hA1 hA2 hG1 hG2 hlA1 hlB1 hz1 hz2
  have HC3 := hid hC3
  have HF1 := hid hF1'
  have HF2 := hid hF2
  clear hC3 hF1' hF2
  go_wp2
  go_loopw [19] (fun i wr => ∃ (k : Nat) (f : Fnt), k ≤ ss.length ∧ k ≤ 7 ∧ i = .int .i64 k ∧ f.r ≤ k + 1 ∧ FtAt wr A1 B1 f ∧ FtAt wr A2 B2 f ∧ Below w.heap.size w wr) (fun i _ => 7 - (intOf i).toNat)
  case atStart => exact ⟨0, f0, by omega, by omega, rfl, hr1, HF1.out, HF2.out, HC3.out⟩
  case round =>
    clear HC3 HF1 HF2 hr1
    obtain ⟨k, f, hk, hk7, rfl, hr, hF1, hF2, hC⟩ := hrel
    have HF1 := hid hF1
    have HF2 := hid hF2
    have HC := hid hC
    clear hF1 hF2 hC
    by_cases hlt : k < ss.length ∧ k < 7
    · obtain ⟨hlt1, hlt2⟩ := hlt
      have hlt1' : (k : Int) < ss.length := by omega
      have hlt2' : (k : Int) < 7 := by omega
      obtain ⟨db, off, rfl, hc⟩ := Hvc.out (by omega)
      obtain ⟨c0, c1, c2, c3⟩ := hc k hlt1
      have hxk := Hok.out ss[k] (List.getElem_mem hlt1)
      have hrr := hid (drawnF_r f ss[k])
      generalize ss[k] = x at *
      have d0 : wr.cell? ⟨db, off + k * 4, none⟩ = some (.int .i64 x.k) := by rw [HC.out.cell (World.block_lt_of_cell? w _ c0)]; exact c0
      have d1 : wr.cell? ⟨db, off + k * 4 + 1, none⟩ = some (.int .i64 x.n) := by rw [HC.out.cell (World.block_lt_of_cell? w _ c1)]; exact c1
      have d2 : wr.cell? ⟨db, off + k * 4 + 2, none⟩ = some (.string x.s) := by rw [HC.out.cell (World.block_lt_of_cell? w _ c2)]; exact c2
      have d3 : wr.cell? ⟨db, off + k * 4 + 3, none⟩ = some (.string x.t) := by rw [HC.out.cell (World.block_lt_of_cell? w _ c3)]; exact c3
      clear hc
      go_wp2_with fail
      refine (drawn_any f x.k x.n x.s x.t A1 B1 _ HF1.out hxk.k0 hxk.k1 hxk.n0 hxk.n1 hxk.s1 hxk.t1).mono ?_
      rintro e w4 ⟨rfl, hF4, hE4⟩
      have hlA2 := HF2.out.lt
      have hlB2 := HF2.out.gen.lt
      have HG2 := hid (HF2.out.other (hE4.block A2 hlA2 (Ne.symm hd1) (Ne.symm hd3)) (hE4.block B2 hlB2 (Ne.symm hd2) (Ne.symm hd4)))
      have HC4 := hid (HC.out.trans (hE4.below hw1 hw2 HC.out.size))
      have HG1 := hid hF4
      have e0 : w4.cell? ⟨db, off + k * 4, none⟩ = some (.int .i64 x.k) := by rw [HC4.out.cell (World.block_lt_of_cell? w _ c0)]; exact c0
      have e1 : w4.cell? ⟨db, off + k * 4 + 1, none⟩ = some (.int .i64 x.n) := by rw [HC4.out.cell (World.block_lt_of_cell? w _ c1)]; exact c1
      have e2 : w4.cell? ⟨db, off + k * 4 + 2, none⟩ = some (.string x.s) := by rw [HC4.out.cell (World.block_lt_of_cell? w _ c2)]; exact c2
      have e3 : w4.cell? ⟨db, off + k * 4 + 3, none⟩ = some (.string x.t) := by rw [HC4.out.cell (World.block_lt_of_cell? w _ c3)]; exact c3
      clear d0 d1 d2 d3 hF4 hE4 HF1 HF2 HC
      go_wp2_with fail
      refine (drawn_any f x.k x.n x.s x.t A2 B2 _ HG2.out hxk.k0 hxk.k1 hxk.n0 hxk.n1 hxk.s1 hxk.t1).mono ?_
      rintro e w5 ⟨rfl, hF5, hE5⟩
      have hlA1 := HG1.out.lt
      have hlB1 := HG1.out.gen.lt
      have HJ1 := hid (HG1.out.other (hE5.block A1 hlA1 hd1 hd2) (hE5.block B1 hlB1 hd3 hd4))
      have HC5 := hid (HC4.out.trans (hE5.below hw3 hw4 HC4.out.size))
      have HJ2 := hid hF5
      clear hF5 hE5 HG1 HG2 HC4 c0 c1 c2 c3 e0 e1 e2 e3 hxk
      generalize drawnF f x.k x.n x.s x.t = dd at *
      go_wp2
      exact ⟨⟨k + 1, dd.1, by omega, by omega, by go_num, by have := hrr.out; omega, HJ1.out, HJ2.out, HC5.out⟩, by simp [intOf]; omega⟩
    · have hr8 : f.r ≤ 8 := by omega
      have hdec : decide ((k : Int) < ss.length) = true → (k : Int) < 7 → False := by
        intro h1 h2
        have := of_decide_eq_true h1
        exact hlt ⟨by omega, by omega⟩
      by_cases hq1 : (k : Int) < ss.length
      · have hq2 : ¬ (k : Int) < 7 := fun h => hdec (decide_eq_true hq1) h
        clear hlt hdec
        go_wp2_with fail
        have hpm := pickI_bd many 201 (by omega)
        refine (pick_any many 201 _ hm0 hm1 (by omega) (by omega)).mono ?_
        rintro e w4 ⟨rfl, rfl⟩
        obtain ⟨m, hm⟩ := Int.eq_ofNat_of_zero_le hpm.1
        rw [hm] at hpm ⊢
        have hm200 : m ≤ 200 := by omega
        clear hpm hm
        go_wp2_with fail
        have hpn := pickI_bd few ((m : Int) + 1) (by omega)
        refine (pick_any few ((m : Int) + 1) _ hf0 hf1 (by omega) (by omega)).mono ?_
        rintro e w4 ⟨rfl, rfl⟩
        obtain ⟨n, hn⟩ := Int.eq_ofNat_of_zero_le hpn.1
        rw [hn] at hpn ⊢
        have hnm : n ≤ m := by omega
        clear hpn hn
        go_wp2_with fail
        refine (short_any ex 64 _ (by omega) (by omega)).mono ?_
        rintro e w4 ⟨rfl, rfl⟩
        have hx64 := cut64 ex
        generalize cut ex 64 = xx at *
        go_wp2_with fail
        refine (read_any f n xx A1 B1 _ HF1.out hx64 (by omega) hr8).mono ?_
        rintro e w5 ⟨g1, rfl, hg1, hr1, _, hE1⟩
        have hlA2 := HF2.out.lt
        have hlB2 := HF2.out.gen.lt
        have HG2 := hid (HF2.out.other (hE1.block A2 hlA2 (Ne.symm hd1) (Ne.symm hd3)) (hE1.block B2 hlB2 (Ne.symm hd2) (Ne.symm hd4)))
        have hzC := HC.out.size
        have HC5 := hid (HC.out.trans (hE1.below hw1 hw2 hzC))
        have Hr1 := hid hr1
        have hgok := HF2.out.ok
        have hz5 := hE1.size
        clear hr1 hE1 HF1 HF2 HC
        go_wp2_with fail
        refine (read_any f m xx A2 B2 _ HG2.out hx64 (by omega) hr8).mono ?_
        rintro e w6 ⟨g2, rfl, hg2, hr2, _, hE2⟩
        have hlg1 : g1 < w5.heap.size := (Array.getElem?_eq_some_iff.1 Hr1.out).1
        have Hr6 := hid ((hE2.block g1 hlg1 (by omega) (by omega)).trans Hr1.out)
        have HC6 := hid (HC5.out.trans (hE2.below hw3 hw4 HC5.out.size))
        have l1 := bytesF_len hgok n (bts xx)
        have l2 := bytesF_len hgok m (bts xx)
        have hfew := hid (bytesF_few hgok n m (bts xx) hnm)
        generalize bytesF f.g n (bts xx) = b1 at *
        generalize bytesF f.g m (bts xx) = b2 at *
        have Y1 : Hd (Byt w6 (.slice (some ⟨g1, 0, none⟩) n n) b1) := hid (by have := byt_block Hr6.out n; rw [l1] at this; exact this)
        have Y2 : Hd (Byt w6 (.slice (some ⟨g2, 0, none⟩) n m) b1) := hid (by
          refine Or.inr ⟨g2, 0, m, by rw [l1], fun j hj => ?_⟩
          rw [Nat.zero_add, (cells_of _ _ _ _ _ hr2).1 j (by omega), hfew.out, List.getElem?_take, if_pos (by omega)])
        clear Hr6 hr2 Hr1 hE2 HC5 HG2 hfew
        go_wp2_with fail
        have hS0 : Sem.run Try.prog (convert 35 9 (.slice (some ⟨g1, 0, none⟩) n n)) w6.drew = .ok (.string (toS b1)) w6.drew ∧ Sem.run Try.prog (convert 35 9 (.slice (some ⟨g2, 0, none⟩) n m)) w6.drew = .ok (.string (toS b1)) w6.drew :=
          ⟨run_str (w := w6.drew) Y1.out, run_str (w := w6.drew) Y2.out⟩
        clear Y1 Y2
        generalize toS b1 = t1 at *
        have hn0' : (0 : Int) ≤ n := by omega
        have hnm' : (n : Int) ≤ m := by omega
        refine wp_region_held_drew (S := fun w' => Sem.run Try.prog (convert 35 9 (.slice (some ⟨g1, 0, none⟩) n n)) w' = .ok (.string t1) w' ∧ Sem.run Try.prog (convert 35 9 (.slice (some ⟨g2, 0, none⟩) n m)) w' = .ok (.string t1) w') (by kernel_rfl) hS0 (fun hSw => ?_)
        refine wpAnyH_take (i := 0) (v := ?_) rfl (by decide +kernel) (by decide +kernel) (by decide +kernel) (fun _ _ _ h => h) (Or.inl ⟨by rfl, ?_⟩) hSw ?_
        rotate_left
        · intro w hw; go_simp; try with_reducible rfl
        simp only [Act.put, List.getElem_toArray, List.getElem_cons_zero, List.getElem_cons_succ, List.setIfInBounds_toArray, List.set_cons_zero, List.set_cons_succ]
        refine wpAnyH_take (i := 1) (v := ?_) rfl (by decide +kernel) (by decide +kernel) (by decide +kernel) (fun _ _ _ h => h) (Or.inl ⟨by rfl, ?_⟩) hSw ?_
        rotate_left
        · intro w hw; go_simp; try with_reducible rfl
        simp only [Act.put, List.getElem_toArray, List.getElem_cons_zero, List.getElem_cons_succ, List.setIfInBounds_toArray, List.set_cons_zero, List.set_cons_succ]
        refine wpAnyH_take (i := 2) (v := ?_) rfl (by decide +kernel) (by decide +kernel) (by decide +kernel) (fun _ _ _ h => h) (Or.inl ⟨by rfl, ?_⟩) hSw ?_
        rotate_left
        · intro w hw; go_simp; try with_reducible rfl
        simp only [Act.put, List.getElem_toArray, List.getElem_cons_zero, List.getElem_cons_succ, List.setIfInBounds_toArray, List.set_cons_zero, List.set_cons_succ]
        refine wpAnyH_take (i := 3) (v := ?_) rfl (by decide +kernel) (by decide +kernel) (by decide +kernel) (fun _ _ _ h => h) (Or.inl ⟨by rfl, ?_⟩) hSw ?_
        rotate_left
        · intro w hw; go_simp; try with_reducible rfl
        simp only [Act.put, List.getElem_toArray, List.getElem_cons_zero, List.getElem_cons_succ, List.setIfInBounds_toArray, List.set_cons_zero, List.set_cons_succ]
        refine wpAnyH_take (i := 4) (v := ?_) rfl (by decide +kernel) (by decide +kernel) (by decide +kernel) (fun _ _ _ h => h) (Or.inl ⟨by rfl, ?_⟩) hSw ?_
        rotate_left
        · intro w hw; go_simp; try with_reducible rfl
        simp only [Act.put, List.getElem_toArray, List.getElem_cons_zero, List.getElem_cons_succ, List.setIfInBounds_toArray, List.set_cons_zero, List.set_cons_succ]
        refine wpAnyH_take (i := 5) (v := ?_) rfl (by decide +kernel) (by decide +kernel) (by decide +kernel) (fun _ _ _ h => h) (Or.inl ⟨by rfl, ?_⟩) hSw ?_
        rotate_left
        · intro w hw; go_simp; try with_reducible rfl
        simp only [Act.put, List.getElem_toArray, List.getElem_cons_zero, List.getElem_cons_succ, List.setIfInBounds_toArray, List.set_cons_zero, List.set_cons_succ]
        refine wpAnyH_take (i := 6) (v := ?_) rfl (by decide +kernel) (by decide +kernel) (by decide +kernel) (fun _ _ _ h => h) (Or.inl ⟨by rfl, ?_⟩) hSw ?_
        rotate_left
        · intro w hw; go_simp; try with_reducible rfl
        simp only [Act.put, List.getElem_toArray, List.getElem_cons_zero, List.getElem_cons_succ, List.setIfInBounds_toArray, List.set_cons_zero, List.set_cons_succ]
        refine wpAnyH_take (i := 7) (v := ?_) rfl (by decide +kernel) (by decide +kernel) (by decide +kernel) (fun _ _ _ h => h) (Or.inl ⟨by rfl, ?_⟩) hSw ?_
        rotate_left
        · intro w hw; go_simp; try with_reducible rfl
        simp only [Act.put, List.getElem_toArray, List.getElem_cons_zero, List.getElem_cons_succ, List.setIfInBounds_toArray, List.set_cons_zero, List.set_cons_succ]
        refine wpAnyH_take (i := 8) (v := ?_) rfl (by decide +kernel) (by decide +kernel) (by decide +kernel) (fun _ _ _ h => h) (Or.inl ⟨by rfl, ?_⟩) hSw ?_
        rotate_left
        · intro w hw; go_simp; try with_reducible rfl
        simp only [Act.put, List.getElem_toArray, List.getElem_cons_zero, List.getElem_cons_succ, List.setIfInBounds_toArray, List.set_cons_zero, List.set_cons_succ]
        refine wpAnyH_take (i := 9) (v := ?_) rfl (by decide +kernel) (by decide +kernel) (by decide +kernel) (fun _ _ _ h => h) (Or.inl ⟨by rfl, ?_⟩) hSw ?_
        rotate_left
        · intro w hw; go_simp; try with_reducible rfl
        simp only [Act.put, List.getElem_toArray, List.getElem_cons_zero, List.getElem_cons_succ, List.setIfInBounds_toArray, List.set_cons_zero, List.set_cons_succ]
        refine wpAnyH_take (i := 10) (v := ?_) rfl (by decide +kernel) (by decide +kernel) (by decide +kernel) (fun _ _ _ h => h) (Or.inl ⟨by rfl, ?_⟩) hSw ?_
        rotate_left
        · intro w hw; go_simp; try with_reducible rfl
        simp only [Act.put, List.getElem_toArray, List.getElem_cons_zero, List.getElem_cons_succ, List.setIfInBounds_toArray, List.set_cons_zero, List.set_cons_succ]
        refine wpAnyH_take (i := 11) (v := ?_) rfl (by decide +kernel) (by decide +kernel) (by decide +kernel) (fun _ _ _ h => h) (Or.inl ⟨by rfl, ?_⟩) hSw ?_
        rotate_left
        · intro w hw; go_simp; try with_reducible rfl
        simp only [Act.put, List.getElem_toArray, List.getElem_cons_zero, List.getElem_cons_succ, List.setIfInBounds_toArray, List.set_cons_zero, List.set_cons_succ]
        refine wpAnyH_take (i := 12) (v := ?_) rfl (by decide +kernel) (by decide +kernel) (by decide +kernel) (fun _ _ _ h => h) (Or.inl ⟨by rfl, ?_⟩) hSw ?_
        rotate_left
        · intro w hw; go_simp; try with_reducible rfl
        simp only [Act.put, List.getElem_toArray, List.getElem_cons_zero, List.getElem_cons_succ, List.setIfInBounds_toArray, List.set_cons_zero, List.set_cons_succ]
        refine wpAnyH_take (i := 13) (v := ?_) rfl (by decide +kernel) (by decide +kernel) (by decide +kernel) (fun _ _ _ h => h) (Or.inl ⟨by rfl, ?_⟩) hSw ?_
        rotate_left
        · intro w hw; go_simp; try with_reducible rfl
        simp only [Act.put, List.getElem_toArray, List.getElem_cons_zero, List.getElem_cons_succ, List.setIfInBounds_toArray, List.set_cons_zero, List.set_cons_succ]
        refine wpAnyH_take (i := 14) (v := ?_) rfl (by decide +kernel) (by decide +kernel) (by decide +kernel) (fun _ _ _ h => h) (Or.inl ⟨by rfl, ?_⟩) hSw ?_
        rotate_left
        · intro w hw; go_simp; try with_reducible rfl
        simp only [Act.put, List.getElem_toArray, List.getElem_cons_zero, List.getElem_cons_succ, List.setIfInBounds_toArray, List.set_cons_zero, List.set_cons_succ]
        refine wpAnyH_take (i := 15) (v := ?_) rfl (by decide +kernel) (by decide +kernel) (by decide +kernel) (fun _ _ _ h => h) (Or.inl ⟨by rfl, ?_⟩) hSw ?_
        rotate_left
        · intro w hw; go_simp; try with_reducible rfl
        simp only [Act.put, List.getElem_toArray, List.getElem_cons_zero, List.getElem_cons_succ, List.setIfInBounds_toArray, List.set_cons_zero, List.set_cons_succ]
        refine wpAnyH_take (i := 16) (v := ?_) rfl (by decide +kernel) (by decide +kernel) (by decide +kernel) (fun _ _ _ h => h) (Or.inl ⟨by rfl, ?_⟩) hSw ?_
        rotate_left
        · intro w hw; go_simp; try with_reducible rfl
        simp only [Act.put, List.getElem_toArray, List.getElem_cons_zero, List.getElem_cons_succ, List.setIfInBounds_toArray, List.set_cons_zero, List.set_cons_succ]
        refine wpAnyH_take (i := 17) (v := ?_) rfl (by decide +kernel) (by decide +kernel) (by decide +kernel) (fun _ _ _ h => h) (Or.inl ⟨by rfl, ?_⟩) hSw ?_
        rotate_left
        · intro w hw; go_simp; try with_reducible rfl
        simp only [Act.put, List.getElem_toArray, List.getElem_cons_zero, List.getElem_cons_succ, List.setIfInBounds_toArray, List.set_cons_zero, List.set_cons_succ]
        refine wpAnyH_take (i := 18) (v := ?_) rfl (by decide +kernel) (by decide +kernel) (by decide +kernel) (fun _ _ _ h => h) (Or.inl ⟨by rfl, ?_⟩) hSw ?_
        rotate_left
        · intro w hw; go_simp; try with_reducible rfl
        simp only [Act.put, List.getElem_toArray, List.getElem_cons_zero, List.getElem_cons_succ, List.setIfInBounds_toArray, List.set_cons_zero, List.set_cons_succ]
        refine wpAnyH_take (i := 19) (v := ?_) rfl (by decide +kernel) (by decide +kernel) (by decide +kernel) (fun _ _ _ h => h) (Or.inl ⟨by rfl, ?_⟩) hSw ?_
        rotate_left
        · intro w hw; go_simp; try with_reducible rfl
        simp only [Act.put, List.getElem_toArray, List.getElem_cons_zero, List.getElem_cons_succ, List.setIfInBounds_toArray, List.set_cons_zero, List.set_cons_succ]
        refine wpAnyH_take (i := 20) (v := ?_) rfl (by decide +kernel) (by decide +kernel) (by decide +kernel) (fun _ _ _ h => h) (Or.inl ⟨by rfl, ?_⟩) hSw ?_
        rotate_left
        · intro w hw; have hcell := hw.1; clear hw; go_simp; try with_reducible rfl
        simp only [Act.put, List.getElem_toArray, List.getElem_cons_zero, List.getElem_cons_succ, List.setIfInBounds_toArray, List.set_cons_zero, List.set_cons_succ]
        refine wpAnyH_take (i := 21) (v := ?_) rfl (by decide +kernel) (by decide +kernel) (by decide +kernel) (fun _ _ _ h => h) (Or.inl ⟨by rfl, ?_⟩) hSw ?_
        rotate_left
        · intro w hw; go_simp; try with_reducible rfl
        simp only [Act.put, List.getElem_toArray, List.getElem_cons_zero, List.getElem_cons_succ, List.setIfInBounds_toArray, List.set_cons_zero, List.set_cons_succ]
        refine wpAnyH_take (i := 22) (v := ?_) rfl (by decide +kernel) (by decide +kernel) (by decide +kernel) (fun _ _ _ h => h) (Or.inl ⟨by rfl, ?_⟩) hSw ?_
        rotate_left
        · intro w hw; go_simp; try with_reducible rfl
        simp only [Act.put, List.getElem_toArray, List.getElem_cons_zero, List.getElem_cons_succ, List.setIfInBounds_toArray, List.set_cons_zero, List.set_cons_succ]
        refine wpAnyH_take (i := 23) (v := ?_) rfl (by decide +kernel) (by decide +kernel) (by decide +kernel) (fun _ _ _ h => h) (Or.inl ⟨by rfl, ?_⟩) hSw ?_
        rotate_left
        · intro w hw; go_simp; try with_reducible rfl
        simp only [Act.put, List.getElem_toArray, List.getElem_cons_zero, List.getElem_cons_succ, List.setIfInBounds_toArray, List.set_cons_zero, List.set_cons_succ]
        refine wpAnyH_take (i := 24) (v := ?_) rfl (by decide +kernel) (by decide +kernel) (by decide +kernel) (fun _ _ _ h => h) (Or.inl ⟨by rfl, ?_⟩) hSw ?_
        rotate_left
        · intro w hw; have hcell := hw.2; clear hw; go_simp; try with_reducible rfl
        simp only [Act.put, List.getElem_toArray, List.getElem_cons_zero, List.getElem_cons_succ, List.setIfInBounds_toArray, List.set_cons_zero, List.set_cons_succ]
        refine wpAnyH_take (i := 25) (v := ?_) rfl (by decide +kernel) (by decide +kernel) (by decide +kernel) (fun _ _ _ h => h) (Or.inl ⟨by rfl, ?_⟩) hSw ?_
        rotate_left
        · intro w hw; go_simp; try with_reducible rfl
        simp only [Act.put, List.getElem_toArray, List.getElem_cons_zero, List.getElem_cons_succ, List.setIfInBounds_toArray, List.set_cons_zero, List.set_cons_succ]
        refine wpAnyH_take (i := 26) (v := ?_) rfl (by decide +kernel) (by decide +kernel) (by decide +kernel) (fun _ _ _ h => h) (Or.inl ⟨by rfl, ?_⟩) hSw ?_
        rotate_left
        · intro w hw; go_simp; try with_reducible rfl
        simp only [Act.put, List.getElem_toArray, List.getElem_cons_zero, List.getElem_cons_succ, List.setIfInBounds_toArray, List.set_cons_zero, List.set_cons_succ]
        refine wpAnyH_take (i := 27) (v := ?_) rfl (by decide +kernel) (by decide +kernel) (by decide +kernel) (fun _ _ _ h => h) (Or.inl ⟨by rfl, ?_⟩) hSw ?_
        rotate_left
        · intro w hw; go_simp; try with_reducible rfl
        simp only [Act.put, List.getElem_toArray, List.getElem_cons_zero, List.getElem_cons_succ, List.setIfInBounds_toArray, List.set_cons_zero, List.set_cons_succ]
        refine wpAnyH_done (by kernel_rfl) ?_ _
        go_wp2
        go_ret
        exact ⟨rfl, HC6.out.drew⟩
      · clear hlt hdec
        go_wp2_with fail
        have hpm := pickI_bd many 201 (by omega)
        refine (pick_any many 201 _ hm0 hm1 (by omega) (by omega)).mono ?_
        rintro e w4 ⟨rfl, rfl⟩
        obtain ⟨m, hm⟩ := Int.eq_ofNat_of_zero_le hpm.1
        rw [hm] at hpm ⊢
        have hm200 : m ≤ 200 := by omega
        clear hpm hm
        go_wp2_with fail
        have hpn := pickI_bd few ((m : Int) + 1) (by omega)
        refine (pick_any few ((m : Int) + 1) _ hf0 hf1 (by omega) (by omega)).mono ?_
        rintro e w4 ⟨rfl, rfl⟩
        obtain ⟨n, hn⟩ := Int.eq_ofNat_of_zero_le hpn.1
        rw [hn] at hpn ⊢
        have hnm : n ≤ m := by omega
        clear hpn hn
        go_wp2_with fail
        refine (short_any ex 64 _ (by omega) (by omega)).mono ?_
        rintro e w4 ⟨rfl, rfl⟩
        have hx64 := cut64 ex
        generalize cut ex 64 = xx at *
        go_wp2_with fail
        refine (read_any f n xx A1 B1 _ HF1.out hx64 (by omega) hr8).mono ?_
        rintro e w5 ⟨g1, rfl, hg1, hr1, _, hE1⟩
        have hlA2 := HF2.out.lt
        have hlB2 := HF2.out.gen.lt
        have HG2 := hid (HF2.out.other (hE1.block A2 hlA2 (Ne.symm hd1) (Ne.symm hd3)) (hE1.block B2 hlB2 (Ne.symm hd2) (Ne.symm hd4)))
        have hzC := HC.out.size
        have HC5 := hid (HC.out.trans (hE1.below hw1 hw2 hzC))
        have Hr1 := hid hr1
        have hgok := HF2.out.ok
        have hz5 := hE1.size
        clear hr1 hE1 HF1 HF2 HC
        go_wp2_with fail
        refine (read_any f m xx A2 B2 _ HG2.out hx64 (by omega) hr8).mono ?_
        rintro e w6 ⟨g2, rfl, hg2, hr2, _, hE2⟩
        have hlg1 : g1 < w5.heap.size := (Array.getElem?_eq_some_iff.1 Hr1.out).1
        have Hr6 := hid ((hE2.block g1 hlg1 (by omega) (by omega)).trans Hr1.out)
        have HC6 := hid (HC5.out.trans (hE2.below hw3 hw4 HC5.out.size))
        have l1 := bytesF_len hgok n (bts xx)
        have l2 := bytesF_len hgok m (bts xx)
        have hfew := hid (bytesF_few hgok n m (bts xx) hnm)
        generalize bytesF f.g n (bts xx) = b1 at *
        generalize bytesF f.g m (bts xx) = b2 at *
        have Y1 : Hd (Byt w6 (.slice (some ⟨g1, 0, none⟩) n n) b1) := hid (by have := byt_block Hr6.out n; rw [l1] at this; exact this)
        have Y2 : Hd (Byt w6 (.slice (some ⟨g2, 0, none⟩) n m) b1) := hid (by
          refine Or.inr ⟨g2, 0, m, by rw [l1], fun j hj => ?_⟩
          rw [Nat.zero_add, (cells_of _ _ _ _ _ hr2).1 j (by omega), hfew.out, List.getElem?_take, if_pos (by omega)])
        clear Hr6 hr2 Hr1 hE2 HC5 HG2 hfew
        go_wp2_with fail
        have hS0 : Sem.run Try.prog (convert 35 9 (.slice (some ⟨g1, 0, none⟩) n n)) w6.drew = .ok (.string (toS b1)) w6.drew ∧ Sem.run Try.prog (convert 35 9 (.slice (some ⟨g2, 0, none⟩) n m)) w6.drew = .ok (.string (toS b1)) w6.drew :=
          ⟨run_str (w := w6.drew) Y1.out, run_str (w := w6.drew) Y2.out⟩
        clear Y1 Y2
        generalize toS b1 = t1 at *
        have hn0' : (0 : Int) ≤ n := by omega
        have hnm' : (n : Int) ≤ m := by omega
        refine wp_region_held_drew (S := fun w' => Sem.run Try.prog (convert 35 9 (.slice (some ⟨g1, 0, none⟩) n n)) w' = .ok (.string t1) w' ∧ Sem.run Try.prog (convert 35 9 (.slice (some ⟨g2, 0, none⟩) n m)) w' = .ok (.string t1) w') (by kernel_rfl) hS0 (fun hSw => ?_)
        refine wpAnyH_take (i := 0) (v := ?_) rfl (by decide +kernel) (by decide +kernel) (by decide +kernel) (fun _ _ _ h => h) (Or.inl ⟨by rfl, ?_⟩) hSw ?_
        rotate_left
        · intro w hw; go_simp; try with_reducible rfl
        simp only [Act.put, List.getElem_toArray, List.getElem_cons_zero, List.getElem_cons_succ, List.setIfInBounds_toArray, List.set_cons_zero, List.set_cons_succ]
        refine wpAnyH_take (i := 1) (v := ?_) rfl (by decide +kernel) (by decide +kernel) (by decide +kernel) (fun _ _ _ h => h) (Or.inl ⟨by rfl, ?_⟩) hSw ?_
        rotate_left
        · intro w hw; go_simp; try with_reducible rfl
        simp only [Act.put, List.getElem_toArray, List.getElem_cons_zero, List.getElem_cons_succ, List.setIfInBounds_toArray, List.set_cons_zero, List.set_cons_succ]
        refine wpAnyH_take (i := 2) (v := ?_) rfl (by decide +kernel) (by decide +kernel) (by decide +kernel) (fun _ _ _ h => h) (Or.inl ⟨by rfl, ?_⟩) hSw ?_
        rotate_left
        · intro w hw; go_simp; try with_reducible rfl
        simp only [Act.put, List.getElem_toArray, List.getElem_cons_zero, List.getElem_cons_succ, List.setIfInBounds_toArray, List.set_cons_zero, List.set_cons_succ]
        refine wpAnyH_take (i := 3) (v := ?_) rfl (by decide +kernel) (by decide +kernel) (by decide +kernel) (fun _ _ _ h => h) (Or.inl ⟨by rfl, ?_⟩) hSw ?_
        rotate_left
        · intro w hw; go_simp; try with_reducible rfl
        simp only [Act.put, List.getElem_toArray, List.getElem_cons_zero, List.getElem_cons_succ, List.setIfInBounds_toArray, List.set_cons_zero, List.set_cons_succ]
        refine wpAnyH_take (i := 4) (v := ?_) rfl (by decide +kernel) (by decide +kernel) (by decide +kernel) (fun _ _ _ h => h) (Or.inl ⟨by rfl, ?_⟩) hSw ?_
        rotate_left
        · intro w hw; go_simp; try with_reducible rfl
        simp only [Act.put, List.getElem_toArray, List.getElem_cons_zero, List.getElem_cons_succ, List.setIfInBounds_toArray, List.set_cons_zero, List.set_cons_succ]
        refine wpAnyH_take (i := 5) (v := ?_) rfl (by decide +kernel) (by decide +kernel) (by decide +kernel) (fun _ _ _ h => h) (Or.inl ⟨by rfl, ?_⟩) hSw ?_
        rotate_left
        · intro w hw; go_simp; try with_reducible rfl
        simp only [Act.put, List.getElem_toArray, List.getElem_cons_zero, List.getElem_cons_succ, List.setIfInBounds_toArray, List.set_cons_zero, List.set_cons_succ]
        refine wpAnyH_take (i := 6) (v := ?_) rfl (by decide +kernel) (by decide +kernel) (by decide +kernel) (fun _ _ _ h => h) (Or.inl ⟨by rfl, ?_⟩) hSw ?_
        rotate_left
        · intro w hw; go_simp; try with_reducible rfl
        simp only [Act.put, List.getElem_toArray, List.getElem_cons_zero, List.getElem_cons_succ, List.setIfInBounds_toArray, List.set_cons_zero, List.set_cons_succ]
        refine wpAnyH_take (i := 7) (v := ?_) rfl (by decide +kernel) (by decide +kernel) (by decide +kernel) (fun _ _ _ h => h) (Or.inl ⟨by rfl, ?_⟩) hSw ?_
        rotate_left
        · intro w hw; go_simp; try with_reducible rfl
        simp only [Act.put, List.getElem_toArray, List.getElem_cons_zero, List.getElem_cons_succ, List.setIfInBounds_toArray, List.set_cons_zero, List.set_cons_succ]
        refine wpAnyH_take (i := 8) (v := ?_) rfl (by decide +kernel) (by decide +kernel) (by decide +kernel) (fun _ _ _ h => h) (Or.inl ⟨by rfl, ?_⟩) hSw ?_
        rotate_left
        · intro w hw; go_simp; try with_reducible rfl
        simp only [Act.put, List.getElem_toArray, List.getElem_cons_zero, List.getElem_cons_succ, List.setIfInBounds_toArray, List.set_cons_zero, List.set_cons_succ]
        refine wpAnyH_take (i := 9) (v := ?_) rfl (by decide +kernel) (by decide +kernel) (by decide +kernel) (fun _ _ _ h => h) (Or.inl ⟨by rfl, ?_⟩) hSw ?_
        rotate_left
        · intro w hw; go_simp; try with_reducible rfl
        simp only [Act.put, List.getElem_toArray, List.getElem_cons_zero, List.getElem_cons_succ, List.setIfInBounds_toArray, List.set_cons_zero, List.set_cons_succ]
        refine wpAnyH_take (i := 10) (v := ?_) rfl (by decide +kernel) (by decide +kernel) (by decide +kernel) (fun _ _ _ h => h) (Or.inl ⟨by rfl, ?_⟩) hSw ?_
        rotate_left
        · intro w hw; go_simp; try with_reducible rfl
        simp only [Act.put, List.getElem_toArray, List.getElem_cons_zero, List.getElem_cons_succ, List.setIfInBounds_toArray, List.set_cons_zero, List.set_cons_succ]
        refine wpAnyH_take (i := 11) (v := ?_) rfl (by decide +kernel) (by decide +kernel) (by decide +kernel) (fun _ _ _ h => h) (Or.inl ⟨by rfl, ?_⟩) hSw ?_
        rotate_left
        · intro w hw; go_simp; try with_reducible rfl
        simp only [Act.put, List.getElem_toArray, List.getElem_cons_zero, List.getElem_cons_succ, List.setIfInBounds_toArray, List.set_cons_zero, List.set_cons_succ]
        refine wpAnyH_take (i := 12) (v := ?_) rfl (by decide +kernel) (by decide +kernel) (by decide +kernel) (fun _ _ _ h => h) (Or.inl ⟨by rfl, ?_⟩) hSw ?_
        rotate_left
        · intro w hw; go_simp; try with_reducible rfl
        simp only [Act.put, List.getElem_toArray, List.getElem_cons_zero, List.getElem_cons_succ, List.setIfInBounds_toArray, List.set_cons_zero, List.set_cons_succ]
        refine wpAnyH_take (i := 13) (v := ?_) rfl (by decide +kernel) (by decide +kernel) (by decide +kernel) (fun _ _ _ h => h) (Or.inl ⟨by rfl, ?_⟩) hSw ?_
        rotate_left
        · intro w hw; go_simp; try with_reducible rfl
        simp only [Act.put, List.getElem_toArray, List.getElem_cons_zero, List.getElem_cons_succ, List.setIfInBounds_toArray, List.set_cons_zero, List.set_cons_succ]
        refine wpAnyH_take (i := 14) (v := ?_) rfl (by decide +kernel) (by decide +kernel) (by decide +kernel) (fun _ _ _ h => h) (Or.inl ⟨by rfl, ?_⟩) hSw ?_
        rotate_left
        · intro w hw; go_simp; try with_reducible rfl
        simp only [Act.put, List.getElem_toArray, List.getElem_cons_zero, List.getElem_cons_succ, List.setIfInBounds_toArray, List.set_cons_zero, List.set_cons_succ]
        refine wpAnyH_take (i := 15) (v := ?_) rfl (by decide +kernel) (by decide +kernel) (by decide +kernel) (fun _ _ _ h => h) (Or.inl ⟨by rfl, ?_⟩) hSw ?_
        rotate_left
        · intro w hw; go_simp; try with_reducible rfl
        simp only [Act.put, List.getElem_toArray, List.getElem_cons_zero, List.getElem_cons_succ, List.setIfInBounds_toArray, List.set_cons_zero, List.set_cons_succ]
        refine wpAnyH_take (i := 16) (v := ?_) rfl (by decide +kernel) (by decide +kernel) (by decide +kernel) (fun _ _ _ h => h) (Or.inl ⟨by rfl, ?_⟩) hSw ?_
        rotate_left
        · intro w hw; go_simp; try with_reducible rfl
        simp only [Act.put, List.getElem_toArray, List.getElem_cons_zero, List.getElem_cons_succ, List.setIfInBounds_toArray, List.set_cons_zero, List.set_cons_succ]
        refine wpAnyH_take (i := 17) (v := ?_) rfl (by decide +kernel) (by decide +kernel) (by decide +kernel) (fun _ _ _ h => h) (Or.inl ⟨by rfl, ?_⟩) hSw ?_
        rotate_left
        · intro w hw; go_simp; try with_reducible rfl
        simp only [Act.put, List.getElem_toArray, List.getElem_cons_zero, List.getElem_cons_succ, List.setIfInBounds_toArray, List.set_cons_zero, List.set_cons_succ]
        refine wpAnyH_take (i := 18) (v := ?_) rfl (by decide +kernel) (by decide +kernel) (by decide +kernel) (fun _ _ _ h => h) (Or.inl ⟨by rfl, ?_⟩) hSw ?_
        rotate_left
        · intro w hw; go_simp; try with_reducible rfl
        simp only [Act.put, List.getElem_toArray, List.getElem_cons_zero, List.getElem_cons_succ, List.setIfInBounds_toArray, List.set_cons_zero, List.set_cons_succ]
        refine wpAnyH_take (i := 19) (v := ?_) rfl (by decide +kernel) (by decide +kernel) (by decide +kernel) (fun _ _ _ h => h) (Or.inl ⟨by rfl, ?_⟩) hSw ?_
        rotate_left
        · intro w hw; go_simp; try with_reducible rfl
        simp only [Act.put, List.getElem_toArray, List.getElem_cons_zero, List.getElem_cons_succ, List.setIfInBounds_toArray, List.set_cons_zero, List.set_cons_succ]
        refine wpAnyH_take (i := 20) (v := ?_) rfl (by decide +kernel) (by decide +kernel) (by decide +kernel) (fun _ _ _ h => h) (Or.inl ⟨by rfl, ?_⟩) hSw ?_
        rotate_left
        · intro w hw; have hcell := hw.1; clear hw; go_simp; try with_reducible rfl
        simp only [Act.put, List.getElem_toArray, List.getElem_cons_zero, List.getElem_cons_succ, List.setIfInBounds_toArray, List.set_cons_zero, List.set_cons_succ]
        refine wpAnyH_take (i := 21) (v := ?_) rfl (by decide +kernel) (by decide +kernel) (by decide +kernel) (fun _ _ _ h => h) (Or.inl ⟨by rfl, ?_⟩) hSw ?_
        rotate_left
        · intro w hw; go_simp; try with_reducible rfl
        simp only [Act.put, List.getElem_toArray, List.getElem_cons_zero, List.getElem_cons_succ, List.setIfInBounds_toArray, List.set_cons_zero, List.set_cons_succ]
        refine wpAnyH_take (i := 22) (v := ?_) rfl (by decide +kernel) (by decide +kernel) (by decide +kernel) (fun _ _ _ h => h) (Or.inl ⟨by rfl, ?_⟩) hSw ?_
        rotate_left
        · intro w hw; go_simp; try with_reducible rfl
        simp only [Act.put, List.getElem_toArray, List.getElem_cons_zero, List.getElem_cons_succ, List.setIfInBounds_toArray, List.set_cons_zero, List.set_cons_succ]
        refine wpAnyH_take (i := 23) (v := ?_) rfl (by decide +kernel) (by decide +kernel) (by decide +kernel) (fun _ _ _ h => h) (Or.inl ⟨by rfl, ?_⟩) hSw ?_
        rotate_left
        · intro w hw; go_simp; try with_reducible rfl
        simp only [Act.put, List.getElem_toArray, List.getElem_cons_zero, List.getElem_cons_succ, List.setIfInBounds_toArray, List.set_cons_zero, List.set_cons_succ]
        refine wpAnyH_take (i := 24) (v := ?_) rfl (by decide +kernel) (by decide +kernel) (by decide +kernel) (fun _ _ _ h => h) (Or.inl ⟨by rfl, ?_⟩) hSw ?_
        rotate_left
        · intro w hw; have hcell := hw.2; clear hw; go_simp; try with_reducible rfl
        simp only [Act.put, List.getElem_toArray, List.getElem_cons_zero, List.getElem_cons_succ, List.setIfInBounds_toArray, List.set_cons_zero, List.set_cons_succ]
        refine wpAnyH_take (i := 25) (v := ?_) rfl (by decide +kernel) (by decide +kernel) (by decide +kernel) (fun _ _ _ h => h) (Or.inl ⟨by rfl, ?_⟩) hSw ?_
        rotate_left
        · intro w hw; go_simp; try with_reducible rfl
        simp only [Act.put, List.getElem_toArray, List.getElem_cons_zero, List.getElem_cons_succ, List.setIfInBounds_toArray, List.set_cons_zero, List.set_cons_succ]
        refine wpAnyH_take (i := 26) (v := ?_) rfl (by decide +kernel) (by decide +kernel) (by decide +kernel) (fun _ _ _ h => h) (Or.inl ⟨by rfl, ?_⟩) hSw ?_
        rotate_left
        · intro w hw; go_simp; try with_reducible rfl
        simp only [Act.put, List.getElem_toArray, List.getElem_cons_zero, List.getElem_cons_succ, List.setIfInBounds_toArray, List.set_cons_zero, List.set_cons_succ]
        refine wpAnyH_take (i := 27) (v := ?_) rfl (by decide +kernel) (by decide +kernel) (by decide +kernel) (fun _ _ _ h => h) (Or.inl ⟨by rfl, ?_⟩) hSw ?_
        rotate_left
        · intro w hw; go_simp; try with_reducible rfl
        simp only [Act.put, List.getElem_toArray, List.getElem_cons_zero, List.getElem_cons_succ, List.setIfInBounds_toArray, List.set_cons_zero, List.set_cons_succ]
        refine wpAnyH_done (by kernel_rfl) ?_ _
        go_wp2
        go_ret
        exact ⟨rfl, HC6.out.drew⟩
end Go.Proofs.Ytbifmhbkmnofiaa
