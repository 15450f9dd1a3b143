import Derived.Test.YtbifmhbkmnofiaaGreatMx
namespace Go.Proofs.YtbifmhbkmnofiaaGreat
open Go.RowKit
set_option linter.unusedVariables false
set_option linter.unusedSimpArgs false
/-- what stands in a list that came out, m its mark -/
def dgs (m : Int) (n : Nat) : List Int := (List.range n).map (dgt m)
theorem dgs_len (m : Int) (n : Nat) : (dgs m n).length = n := by simp [dgs]
theorem dgs_succ (m : Int) (n : Nat) : dgs m (n + 1) = dgs m n ++ [dgt m n] := by simp [dgs, List.range_succ]
theorem dgs_get (m : Int) (n j : Nat) (h : j < n) : (dgs m n)[j]?.getD 0 = dgt m j := by simp [dgs, h]
def dov (xs : List Int) (m : Int) (k : Nat) : List Int := dgs m k ++ xs.drop k
theorem dov_len (xs : List Int) (m : Int) (k : Nat) (h : k ≤ xs.length) : (dov xs m k).length = xs.length := by simp [dov, dgs_len]; omega
theorem dov_step (xs : List Int) (m : Int) (k : Nat) (h : k < xs.length) : dov xs m (k + 1) = (dov xs m k).set k (dgt m k) := by
  unfold dov
  rw [List.set_append_right _ _ (by rw [dgs_len]; omega), dgs_len, Nat.sub_self, List.drop_eq_getElem_cons h, List.set_cons_zero, dgs_succ, List.append_assoc]; rfl
theorem fl_row {w : World} {N n : Nat} {v : Value} {m : Int} (h : w.ownsRow N 5 1 v n ((dgs m n).map (Value.int .u8))) : FL w v n (dgt m) := by
  rcases h.2 with ⟨rfl, h0⟩ | ⟨g, cap, cur, rfl, hN, hgg, hle, hm, hsz, htake⟩
  · subst h0; exact ⟨none, 0, rfl, fun h => by omega⟩
  · refine ⟨_, cap, rfl, fun _ => ⟨g, 0, rfl, fun j hj => ?_⟩⟩
    have := World.ownsRow.cells h (g := g) rfl j (.int .u8 (dgt m j)) (by simp [dgs, hj])
    rw [Addr.add_mid] at this
    exact this
theorem FL.other {w w' : World} {v : Value} {n : Nat} {f : Nat → Int} (h : FL w v n f) (he : ∀ b, v.ownBlock = some b → w'.heap[b]? = w.heap[b]?) : FL w' v n f := by
  obtain ⟨a, cap, rfl, hc⟩ := h
  refine ⟨a, cap, rfl, fun hp => ?_⟩
  obtain ⟨db, off, rfl, hc2⟩ := hc hp
  refine ⟨db, off, rfl, fun j hj => ?_⟩
  rw [← hc2 j hj]
  unfold World.cell?
  rw [he db rfl]
/-- a list that came out, as it comes: nil, or a block of just its bytes -/
def OutAt (w : World) (ao : Option Addr) (xs : List Int) : Prop := (ao = none ∧ xs = []) ∨ ∃ gb, ao = some ⟨gb, 0, none⟩ ∧ w.heap[gb]? = some (.cells (ints .u8 xs) 5 (0, 0))
theorem digit_int (m i : Int) (w : World) (hm : 0 ≤ m) (hm' : m ≤ 9223372036854775807) (h0 : 0 ≤ i) (hi : i ≤ 9223372036854775807) :
    Calls Tryz.prog 15 #[.int .i64 m, .int .i64 i] w fun e w' => e = .returned (.int .u8 (dgt m i.toNat)) ∧ w' = w := by
  obtain ⟨k, rfl⟩ := Int.eq_ofNat_of_zero_le h0
  rw [Int.toNat_natCast]
  exact digit_any m k w hm hm' (by omega)
theorem row_new (w : World) (ys : List Int) (j : Nat) (u : Value) (h : (ys.map (Value.int .u8))[j]? = some u) : (w.alloc (.cells (ys.map (Value.int .u8)).toArray 5)).cell? ((⟨w.heap.size, 0, none⟩ : Addr).add j) = some u := by
  rw [Addr.add_mid, Nat.zero_add, cell_of_row _ _ _ _ _ _ (al_new w (.cells (ys.map (Value.int .u8)).toArray 5))]
  simpa using h
theorem owns_below {w w' : World} {N n size : Nat} {e : TypeId} {v : Value} {xs : List Value} (h : w.ownsRow N e size v n xs) (hb : Below w.heap.size w w') : w'.ownsRow N e size v n xs :=
  owns_other h (fun b hv => hb.block b (World.ownsRow.lt h b hv).2)
theorem held_other {w w' : World} {ao : Option Addr} {olds : List Value} (h : ∀ b, ao = some b → ∀ j u, olds[j]? = some u → w.cell? (b.add j) = some u) (he : ∀ b, ao = some b → b.block < w.heap.size → w'.heap[b.block]? = w.heap[b.block]?) : ∀ b, ao = some b → ∀ j u, olds[j]? = some u → w'.cell? (b.add j) = some u := fun b hbb j u hu => by
  have h1 := h b hbb j u hu
  have hb1 : (b.add j).block = b.block := by unfold Addr.add; split <;> rfl
  have hlt := World.block_lt_of_cell? w _ h1
  rw [← h1]
  unfold World.cell?
  rw [hb1] at hlt ⊢
  rw [he b hbb hlt]
theorem owns_base {w : World} {N N' n size : Nat} {e : TypeId} {v : Value} {xs : List Value} (h : w.ownsRow N e size v n xs) (hN : N' ≤ N) : w.ownsRow N' e size v n xs := by
  refine ⟨h.1, ?_⟩
  rcases h.2 with hn | ⟨g, cap, cur, hv, hb, rest⟩
  · exact .inl hn
  · exact .inr ⟨g, cap, cur, hv, Nat.le_trans hN hb, rest⟩
theorem held_below {w w' : World} {ao : Option Addr} {olds : List Value} (h : ∀ b, ao = some b → ∀ j u, olds[j]? = some u → w.cell? (b.add j) = some u) (hb : Below w.heap.size w w') : ∀ b, ao = some b → ∀ j u, olds[j]? = some u → w'.cell? (b.add j) = some u := fun b hbb j u hu => by
  have h1 := h b hbb j u hu
  rw [hb.cell (World.block_lt_of_cell? w _ h1)]; exact h1
theorem Tryz.infoI3 : (Tryz.prog.info? 3).map (fun i => (i.zero, i.size, i.bytes)) = some (some (.int .i64 0), 1, 8) := by kernel_rfl
set_option maxRecDepth 20000 in
set_option maxHeartbeats 2000000 in
theorem own_any (ao : Option Addr) (xs : List Int) (W N : Nat) (vs : List Value) (vl vm : Value) (L : List Value) (M : List Int) (w : World) (hO : OutAt w ao xs) (hn : xs.length ≤ 1000) (hW : WbAt w W vs) (hvs : vs.length = 7) (hvl : vs[4]? = some vl) (hvm : vs[5]? = some vm)
    (hL : w.ownsRow N 41 1 vl L.length L) (hM : w.ownsRow N 3 1 vm L.length (M.map (Value.int .i64))) (hLl : (L.length + 4) * 24 ≤ 140737488355328) (hoW : ao ≠ some ⟨W, 0, none⟩) (hoL : ∀ b, vl.ownBlock = some b → ao ≠ some ⟨b, 0, none⟩) (hoM : ∀ b, vm.ownBlock = some b → ao ≠ some ⟨b, 0, none⟩)
    (hWL : vl.ownBlock ≠ some W) (hWM : vm.ownBlock ≠ some W) (hLM : ∀ b, vl.ownBlock = some b → vm.ownBlock ≠ some b) (hN : N ≤ w.heap.size) :
    Calls Tryz.prog 67 #[.pointer (some ⟨W, 0, none⟩), .slice ao xs.length xs.length] w fun e w' => e = .returned (.tuple #[]) ∧ ∃ b1 b2 b3 c1 c2 c3 vl' vm', WbAt w' W ((vs.set 4 vl').set 5 vm') ∧ w'.ownsRow N 41 1 vl' (L.length + 4) (L ++ [.slice ao xs.length xs.length, .slice (some ⟨b1, 0, none⟩) (xs.length + 1) c1, .slice (some ⟨b2, 0, none⟩) (xs.length + 2) c2, .slice (some ⟨b3, 0, none⟩) (xs.length + 3) c3]) ∧
      w'.ownsRow N 3 1 vm' (L.length + 4) ((M ++ [(L.length : Int), L.length, L.length, L.length]).map (Value.int .i64)) ∧ FL w' (.slice ao xs.length xs.length) xs.length (dgt L.length) ∧
      w'.ownsRow w.heap.size 5 1 (.slice (some ⟨b1, 0, none⟩) (xs.length + 1) c1) (xs.length + 1) ((dgs (L.length : Int) (xs.length + 1)).map (Value.int .u8)) ∧ w'.ownsRow w.heap.size 5 1 (.slice (some ⟨b2, 0, none⟩) (xs.length + 2) c2) (xs.length + 2) ((dgs (L.length : Int) (xs.length + 2)).map (Value.int .u8)) ∧ w'.ownsRow w.heap.size 5 1 (.slice (some ⟨b3, 0, none⟩) (xs.length + 3) c3) (xs.length + 3) ((dgs (L.length : Int) (xs.length + 3)).map (Value.int .u8)) ∧
      w.heap.size ≤ b1 ∧ b1 < b2 ∧ b2 < b3 ∧ (vl'.ownBlock = vl.ownBlock ∨ ∃ b, b3 < b ∧ vl'.ownBlock = some b) ∧ (vm'.ownBlock = vm.ownBlock ∨ ∃ b, b3 < b ∧ vl'.ownBlock ≠ some b ∧ vm'.ownBlock = some b) ∧
      Fr (fun k => ao = some ⟨k, 0, none⟩ ∨ k = W ∨ some k = vl.ownBlock ∨ some k = vm.ownBlock) w w' := by
  have hO' := hO
  have hfr : ∀ gb, ao = some ⟨gb, 0, none⟩ → w.heap[gb]? = some (.cells (ints .u8 xs) 5 (0, 0)) := fun gb h => by
    rcases hO' with ⟨h1, _⟩ | ⟨gb', h1, h2⟩
    · rw [h1] at h; cases h
    · rw [h] at h1; simp only [Option.some.injEq, Addr.mk.injEq, and_true] at h1; rw [h1]; exact h2
  have hao : xs.length ≠ 0 → ∃ gb, ao = some ⟨gb, 0, none⟩ := fun h => by
    rcases hO with ⟨_, h1⟩ | ⟨gb, h1, _⟩
    · rw [h1] at h; exact absurd rfl h
    · exact ⟨gb, h1⟩
  have Haf : Hd (∀ b, ao = some b → b = ⟨b.block, 0, none⟩) := hid fun b hb => by
    rcases hO with ⟨h1, _⟩ | ⟨gb, h1, _⟩
    · rw [h1] at hb; cases hb
    · rw [h1] at hb; simp only [Option.some.injEq] at hb; rw [← hb]
  have Hfr := hid hfr
  have Hao := hid hao
  have HW := hid hW
  have HL := hid hL
  have HM := hid hM
  have hWl := hW.lt
  have c5 := hW.cell 5
  rw [hvm] at c5
  have hmf : ∃ a c, vm = .slice a L.length c := by
    rcases hM.2 with ⟨h, h0⟩ | ⟨g', cap', cur, h, _⟩
    · exact ⟨_, _, by rw [h, h0]⟩
    · exact ⟨_, _, h⟩
  obtain ⟨am, cm, hmf⟩ := hmf
  have Hmf := hid hmf
  rw [hmf] at c5
  clear hO hO' hfr hao hW hL hM hmf
  go_enter Tryz.func67, Tryz.ntmps67
  go_wp2
  go_loopw [5] (fun i wr => ∃ k : Nat, k ≤ xs.length ∧ i = .int .i64 k ∧ (∀ gb, ao = some ⟨gb, 0, none⟩ → wr.heap[gb]? = some (.cells (ints .u8 (dov xs L.length k)) 5 (0, 0))) ∧ Fr (fun k => ao = some ⟨k, 0, none⟩) w wr) (fun i _ => xs.length - (intOf i).toNat)
  case atStart => exact ⟨0, by omega, rfl, Hfr.out, Fr.refl _ _⟩
  case round =>
    clear Hfr
    obtain ⟨k, hk, rfl, hrow, hF⟩ := hrel
    by_cases hlt : k < xs.length
    · obtain ⟨gb, rfl⟩ := Hao.out (by omega)
      have hb := hrow gb rfl
      have hdl := dov_len xs L.length k hk
      obtain ⟨hc, hf⟩ := cells_of _ _ _ _ _ hb
      have c1 := hc k (by omega)
      have f1 := hf k
      have hset := hid (setCell_ints _ _ k .u8 _ (dgt L.length k) _ hb)
      have hst := hid (dov_step xs L.length k hlt)
      have hlt' : (k : Int) < xs.length := by omega
      have HF := hid (hF.trans ((Fr.of_ex ((Ex.refl gb wr).setCell k (.int .u8 (dgt L.length k)))).mono (fun j _ h => by rw [h])))
      clear hc hf hb hrow hF
      go_wp2_with fail
      refine (digit_any (L.length : Int) k _ (by omega) (by omega) (by omega)).mono ?_
      rintro e w2 ⟨rfl, rfl⟩
      go_wp2
      refine ⟨⟨k + 1, by omega, by go_num, fun gb' h => ?_, HF.out⟩, by simp [intOf]; omega⟩
      simp only [Option.some.injEq, Addr.mk.injEq, and_true] at h
      subst h
      rw [hst.out]; exact hset.out
    · obtain rfl : k = xs.length := by omega
      have hdv : dov xs L.length xs.length = dgs L.length xs.length := by unfold dov; rw [List.drop_of_length_le (by omega), List.append_nil]
      rw [hdv] at hrow
      obtain ⟨i5, hi5, hz50, hz51, hz52⟩ := info_parts Tryz.infoB
      have Hnone : Hd (ao = none → xs.length = 0 ∧ xs.length = 0) := hid fun h => by
        by_cases h0 : xs.length = 0
        · exact ⟨h0, h0⟩
        · obtain ⟨gb, hg⟩ := Hao.out h0
          rw [h] at hg; cases hg
      have Hlo : Hd (((dgs (L.length : Int) xs.length).map (Value.int .u8)).length = xs.length * 1) := hid (by simp [dgs_len])
      have Hh : Hd (∀ b, ao = some b → ∀ j u, ((dgs (L.length : Int) xs.length).map (Value.int .u8))[j]? = some u → wr.cell? (b.add j) = some u) := hid fun b hb j u hu => by
        have hj : j < (dgs (L.length : Int) xs.length).length := by simpa using (List.getElem?_eq_some_iff.1 hu).1
        have hx0 : xs.length ≠ 0 := by rw [dgs_len] at hj; omega
        obtain ⟨gb, hg⟩ := Hao.out hx0
        rw [hb] at hg
        simp only [Option.some.injEq] at hg
        subst hg
        rw [Addr.add_mid, Nat.zero_add, (cells_of _ _ _ _ _ (hrow gb hb)).1 j hj, ← hu]
        simp [List.getElem?_eq_getElem hj]
      have HvlB : Hd (∀ b, vl.ownBlock = some b → b < w.heap.size) := hid (fun b hb => (World.ownsRow.lt HL.out b hb).2)
      have HvmB : Hd (∀ b, vm.ownBlock = some b → b < w.heap.size) := hid (fun b hb => (World.ownsRow.lt HM.out b hb).2)
      have Hao2 : Hd (∀ b, ao = some b → b = ⟨b.block, 0, none⟩) := hid Haf.out
      have HWx := hid (HW.out.other (hF.block W hWl hoW))
      have HLx := hid (owns_other HL.out (fun b hb => hF.block b (World.ownsRow.lt HL.out b hb).2 (hoL b hb)))
      have HMx := hid (owns_other HM.out (fun b hb => hF.block b (World.ownsRow.lt HM.out b hb).2 (hoM b hb)))
      have HFx := hid hF
      clear hrow hF hdv HW HL HM c5
      go_wp2_with fail
      refine (digit_int (L.length : Int) ((xs.length : Int)) _ (by omega) (by omega) (by omega) (by omega)).mono ?_
      rintro e wq ⟨rfl, rfl⟩
      rw [show ((xs.length : Int)).toNat = xs.length by omega]
      have hlow1 := HFx.out.size
      have hbl1 : Below wq.heap.size wq (wq.alloc (.cells #[Value.int .u8 (dgt (L.length : Int) xs.length)] 5)) := (Below.refl _ _).alloc (Nat.le_refl _) _
      have hh1 := hid (held_below Hh.out hbl1)
      have hnw1 : Hd (∀ j u, ([dgt (L.length : Int) xs.length].map (Value.int .u8))[j]? = some u → (wq.alloc (.cells #[Value.int .u8 (dgt (L.length : Int) xs.length)] 5)).cell? ((⟨wq.heap.size, 0, none⟩ : Addr).add j) = some u) := hid (fun j u hu => row_new wq [dgt (L.length : Int) xs.length] j u hu)
      go_wp2_with (at_builtin; refine wpList_append_grows _ rfl _ _ 41 rfl 5 i5 (.int .u8 0) 1 1 Tryz.underlying41 hi5 hz50 hz51 hz52 rfl (by decide) ao xs.length xs.length ((dgs (L.length : Int) xs.length).map (Value.int .u8)) rfl Hnone.out Hlo.out hh1.out ⟨wq.heap.size, 0, none⟩ 1 1 ([dgt (L.length : Int) xs.length].map (Value.int .u8)) rfl rfl hnw1.out (one_ints _ _) (by omega) (by unfold maxLen; omega) (by omega) ?_)
      intro v1 w1 hown1 hgr1
      have hB1 : Below wq.heap.size wq w1 := hbl1.grown hgr1 (by simp) (fun j hj => by cases hj)
      have HV1 : Hd (w1.ownsRow wq.heap.size 5 1 v1 (xs.length + 1) ((dgs (L.length : Int) (xs.length + 1)).map (Value.int .u8))) := hid (owns_base (by
        have e1 : dgs (L.length : Int) (xs.length + 1) = dgs (L.length : Int) xs.length ++ [dgt (L.length : Int) xs.length] := by simp [dgs, List.range_succ]
        rw [e1, List.map_append]; exact hown1) (by simp))
      have Hh' := hid (held_below Hh.out hB1)
      have HWx' := hid (HWx.out.other (hB1.block W HWx.out.lt))
      have HLx' := hid (owns_below HLx.out hB1)
      have HMx' := hid (owns_below HMx.out hB1)
      have HFx' := hid (HFx.out.trans (Fr.of_below hB1))
      have hzz1 := hB1.size

      clear hbl1 hh1 hnw1 hown1 hgr1 Hh HWx HLx HMx HFx
      have Hh := Hh'
      have HWx := HWx'
      have HLx := HLx'
      have HMx := HMx'
      have HFx := HFx'
      clear Hh' HWx' HLx' HMx' HFx' hB1
      obtain ⟨b1, c1_, rfl, hb1lo, hb1hi⟩ : ∃ b c, v1 = .slice (some ⟨b, 0, none⟩) (xs.length + 1) c ∧ w.heap.size ≤ b ∧ b < w1.heap.size := by
        rcases HV1.out.2 with ⟨h, h0⟩ | ⟨g', cap', cur, h, hlo, hgg, _⟩
        · omega
        · exact ⟨g', cap', h, by omega, (Array.getElem?_eq_some_iff.1 hgg).1⟩
      go_wp2_with fail
      refine (digit_int (L.length : Int) ((xs.length : Int)) _ (by omega) (by omega) (by omega) (by omega)).mono ?_
      rintro e wq ⟨rfl, rfl⟩
      rw [show ((xs.length : Int)).toNat = xs.length by omega]
      go_wp2_with fail
      refine (digit_int (L.length : Int) ((xs.length : Int) + 1) _ (by omega) (by omega) (by omega) (by omega)).mono ?_
      rintro e wq ⟨rfl, rfl⟩
      rw [show ((xs.length : Int) + 1).toNat = xs.length + 1 by omega]
      have hlow2 := HFx.out.size
      have hbl2 : Below wq.heap.size wq (wq.alloc (.cells #[Value.int .u8 (dgt (L.length : Int) xs.length), Value.int .u8 (dgt (L.length : Int) (xs.length + 1))] 5)) := (Below.refl _ _).alloc (Nat.le_refl _) _
      have hh2 := hid (held_below Hh.out hbl2)
      have hnw2 : Hd (∀ j u, ([dgt (L.length : Int) xs.length, dgt (L.length : Int) (xs.length + 1)].map (Value.int .u8))[j]? = some u → (wq.alloc (.cells #[Value.int .u8 (dgt (L.length : Int) xs.length), Value.int .u8 (dgt (L.length : Int) (xs.length + 1))] 5)).cell? ((⟨wq.heap.size, 0, none⟩ : Addr).add j) = some u) := hid (fun j u hu => row_new wq [dgt (L.length : Int) xs.length, dgt (L.length : Int) (xs.length + 1)] j u hu)
      go_wp2_with (at_builtin; refine wpList_append_grows _ rfl _ _ 41 rfl 5 i5 (.int .u8 0) 1 1 Tryz.underlying41 hi5 hz50 hz51 hz52 rfl (by decide) ao xs.length xs.length ((dgs (L.length : Int) xs.length).map (Value.int .u8)) rfl Hnone.out Hlo.out hh2.out ⟨wq.heap.size, 0, none⟩ 2 2 ([dgt (L.length : Int) xs.length, dgt (L.length : Int) (xs.length + 1)].map (Value.int .u8)) rfl rfl hnw2.out (one_ints _ _) (by omega) (by unfold maxLen; omega) (by omega) ?_)
      intro v2 w2 hown2 hgr2
      have hB2 : Below wq.heap.size wq w2 := hbl2.grown hgr2 (by simp) (fun j hj => by cases hj)
      have HV2 : Hd (w2.ownsRow wq.heap.size 5 1 v2 (xs.length + 2) ((dgs (L.length : Int) (xs.length + 2)).map (Value.int .u8))) := hid (owns_base (by
        have e1 : dgs (L.length : Int) (xs.length + 2) = dgs (L.length : Int) xs.length ++ [dgt (L.length : Int) xs.length, dgt (L.length : Int) (xs.length + 1)] := by simp [dgs, List.range_succ]
        rw [e1, List.map_append]; exact hown2) (by simp))
      have Hh' := hid (held_below Hh.out hB2)
      have HWx' := hid (HWx.out.other (hB2.block W HWx.out.lt))
      have HLx' := hid (owns_below HLx.out hB2)
      have HMx' := hid (owns_below HMx.out hB2)
      have HFx' := hid (HFx.out.trans (Fr.of_below hB2))
      have hzz2 := hB2.size

      have HV1' := hid (owns_below HV1.out hB2)
      clear hbl2 hh2 hnw2 hown2 hgr2 Hh HWx HLx HMx HFx HV1
      have Hh := Hh'
      have HWx := HWx'
      have HLx := HLx'
      have HMx := HMx'
      have HFx := HFx'
      have HV1 := HV1'
      clear Hh' HWx' HLx' HMx' HFx' HV1' hB2
      obtain ⟨b2, c2_, rfl, hb2lo, hb2hi⟩ : ∃ b c, v2 = .slice (some ⟨b, 0, none⟩) (xs.length + 2) c ∧ b1 + 1 ≤ b ∧ b < w2.heap.size := by
        rcases HV2.out.2 with ⟨h, h0⟩ | ⟨g', cap', cur, h, hlo, hgg, _⟩
        · omega
        · exact ⟨g', cap', h, by omega, (Array.getElem?_eq_some_iff.1 hgg).1⟩
      go_wp2_with fail
      refine (digit_int (L.length : Int) ((xs.length : Int)) _ (by omega) (by omega) (by omega) (by omega)).mono ?_
      rintro e wq ⟨rfl, rfl⟩
      rw [show ((xs.length : Int)).toNat = xs.length by omega]
      go_wp2_with fail
      refine (digit_int (L.length : Int) ((xs.length : Int) + 1) _ (by omega) (by omega) (by omega) (by omega)).mono ?_
      rintro e wq ⟨rfl, rfl⟩
      rw [show ((xs.length : Int) + 1).toNat = xs.length + 1 by omega]
      go_wp2_with fail
      refine (digit_int (L.length : Int) ((xs.length : Int) + 2) _ (by omega) (by omega) (by omega) (by omega)).mono ?_
      rintro e wq ⟨rfl, rfl⟩
      rw [show ((xs.length : Int) + 2).toNat = xs.length + 2 by omega]
      have hlow3 := HFx.out.size
      have hbl3 : Below wq.heap.size wq (wq.alloc (.cells #[Value.int .u8 (dgt (L.length : Int) xs.length), Value.int .u8 (dgt (L.length : Int) (xs.length + 1)), Value.int .u8 (dgt (L.length : Int) (xs.length + 2))] 5)) := (Below.refl _ _).alloc (Nat.le_refl _) _
      have hh3 := hid (held_below Hh.out hbl3)
      have hnw3 : Hd (∀ j u, ([dgt (L.length : Int) xs.length, dgt (L.length : Int) (xs.length + 1), dgt (L.length : Int) (xs.length + 2)].map (Value.int .u8))[j]? = some u → (wq.alloc (.cells #[Value.int .u8 (dgt (L.length : Int) xs.length), Value.int .u8 (dgt (L.length : Int) (xs.length + 1)), Value.int .u8 (dgt (L.length : Int) (xs.length + 2))] 5)).cell? ((⟨wq.heap.size, 0, none⟩ : Addr).add j) = some u) := hid (fun j u hu => row_new wq [dgt (L.length : Int) xs.length, dgt (L.length : Int) (xs.length + 1), dgt (L.length : Int) (xs.length + 2)] j u hu)
      go_wp2_with (at_builtin; refine wpList_append_grows _ rfl _ _ 41 rfl 5 i5 (.int .u8 0) 1 1 Tryz.underlying41 hi5 hz50 hz51 hz52 rfl (by decide) ao xs.length xs.length ((dgs (L.length : Int) xs.length).map (Value.int .u8)) rfl Hnone.out Hlo.out hh3.out ⟨wq.heap.size, 0, none⟩ 3 3 ([dgt (L.length : Int) xs.length, dgt (L.length : Int) (xs.length + 1), dgt (L.length : Int) (xs.length + 2)].map (Value.int .u8)) rfl rfl hnw3.out (one_ints _ _) (by omega) (by unfold maxLen; omega) (by omega) ?_)
      intro v3 w3 hown3 hgr3
      have hB3 : Below wq.heap.size wq w3 := hbl3.grown hgr3 (by simp) (fun j hj => by cases hj)
      have HV3 : Hd (w3.ownsRow wq.heap.size 5 1 v3 (xs.length + 3) ((dgs (L.length : Int) (xs.length + 3)).map (Value.int .u8))) := hid (owns_base (by
        have e1 : dgs (L.length : Int) (xs.length + 3) = dgs (L.length : Int) xs.length ++ [dgt (L.length : Int) xs.length, dgt (L.length : Int) (xs.length + 1), dgt (L.length : Int) (xs.length + 2)] := by simp [dgs, List.range_succ]
        rw [e1, List.map_append]; exact hown3) (by simp))
      have Hh' := hid (held_below Hh.out hB3)
      have HWx' := hid (HWx.out.other (hB3.block W HWx.out.lt))
      have HLx' := hid (owns_below HLx.out hB3)
      have HMx' := hid (owns_below HMx.out hB3)
      have HFx' := hid (HFx.out.trans (Fr.of_below hB3))
      have hzz3 := hB3.size

      have HV1' := hid (owns_below HV1.out hB3)
      have HV2' := hid (owns_below HV2.out hB3)
      clear hbl3 hh3 hnw3 hown3 hgr3 Hh HWx HLx HMx HFx HV1 HV2
      have Hh := Hh'
      have HWx := HWx'
      have HLx := HLx'
      have HMx := HMx'
      have HFx := HFx'
      have HV1 := HV1'
      have HV2 := HV2'
      clear Hh' HWx' HLx' HMx' HFx' HV1' HV2' hB3
      obtain ⟨b3, c3_, rfl, hb3lo, hb3hi⟩ : ∃ b c, v3 = .slice (some ⟨b, 0, none⟩) (xs.length + 3) c ∧ b2 + 1 ≤ b ∧ b < w3.heap.size := by
        rcases HV3.out.2 with ⟨h, h0⟩ | ⟨g', cap', cur, h, hlo, hgg, _⟩
        · omega
        · exact ⟨g', cap', h, by omega, (Array.getElem?_eq_some_iff.1 hgg).1⟩
      obtain ⟨i8, hi8, hz80, hz81, hz82⟩ := info_parts Tryz.infoSl
      obtain ⟨i3, hi3, hz30, hz31, hz32⟩ := info_parts Tryz.infoI3
      have c4 := HWx.out.cell 4
      rw [hvl] at c4
      have hlo3 := HFx.out.size
      obtain ⟨al, cl, Hlf⟩ : ∃ a c, vl = .slice a L.length c := by
        rcases HLx.out.2 with ⟨h, h0⟩ | ⟨g', cap', cur, h, _⟩
        · exact ⟨_, _, by rw [h, h0]⟩
        · exact ⟨_, _, h⟩
      have HlF := hid Hlf
      rw [Hlf] at c4
      clear Hlf
      have hbl4 : Below w3.heap.size w3 (w3.alloc (.cells #[Value.slice ao xs.length xs.length, Value.slice (some ⟨b1, 0, none⟩) (xs.length + 1) c1_, Value.slice (some ⟨b2, 0, none⟩) (xs.length + 2) c2_, Value.slice (some ⟨b3, 0, none⟩) (xs.length + 3) c3_] 41)) := (Below.refl _ _).alloc (Nat.le_refl _) _
      have hL4 := hid (owns_below HLx.out hbl4)
      have hW4 := hid (HWx.out.other (hbl4.block W HWx.out.lt))
      have hM4 := hid (owns_below HMx.out hbl4)
      have hV14 := hid (owns_below HV1.out hbl4)
      have hV24 := hid (owns_below HV2.out hbl4)
      have hV34 := hid (owns_below HV3.out hbl4)
      have hh4 := hid (held_below Hh.out hbl4)
      have hF4 := hid (HFx.out.trans (Fr.of_below hbl4))
      have hz4 := al_size w3 (.cells #[Value.slice ao xs.length xs.length, Value.slice (some ⟨b1, 0, none⟩) (xs.length + 1) c1_, Value.slice (some ⟨b2, 0, none⟩) (xs.length + 2) c2_, Value.slice (some ⟨b3, 0, none⟩) (xs.length + 3) c3_] 41)
      have hnw4 : Hd (∀ j u, [Value.slice ao xs.length xs.length, Value.slice (some ⟨b1, 0, none⟩) (xs.length + 1) c1_, Value.slice (some ⟨b2, 0, none⟩) (xs.length + 2) c2_, Value.slice (some ⟨b3, 0, none⟩) (xs.length + 3) c3_][j]? = some u → (w3.alloc (.cells #[Value.slice ao xs.length xs.length, Value.slice (some ⟨b1, 0, none⟩) (xs.length + 1) c1_, Value.slice (some ⟨b2, 0, none⟩) (xs.length + 2) c2_, Value.slice (some ⟨b3, 0, none⟩) (xs.length + 3) c3_] 41)).cell? ((⟨w3.heap.size, 0, none⟩ : Addr).add j) = some u) := hid (fun j u hu => by
        rw [Addr.add_mid, Nat.zero_add, cell_of_row _ _ _ _ _ _ (al_new w3 _)]; simpa using hu)
      clear HLx HWx HMx HV1 HV2 HV3 Hh HFx hbl4
      rw [← HlF.out] at c4
      rw [HlF.out] at c4
      rw [HlF.out] at hL4
      go_wp2_with (at_builtin; refine wpList_append_own_at _ rfl _ _ 31 rfl N 41 i8 (.slice none 0 0) 1 24 Tryz.underlying31 hi8 hz80 hz81 hz82 rfl (by decide) _ _ _ rfl hL4.out ⟨w3.heap.size, 0, none⟩ 4 4 [Value.slice ao xs.length xs.length, Value.slice (some ⟨b1, 0, none⟩) (xs.length + 1) c1_, Value.slice (some ⟨b2, 0, none⟩) (xs.length + 2) c2_, Value.slice (some ⟨b3, 0, none⟩) (xs.length + 3) c3_] rfl rfl hnw4.out (fun u hu => by simp at hu; rcases hu with rfl | rfl | rfl | rfl <;> rfl) (by unfold maxLen; omega) (by omega) (by omega) ?_)
      intro vl' w5 hown hgr hiff hat
      rw [← HlF.out] at hgr hat
      have hne : ∀ k, w.heap.size ≤ k → some k ≠ vl.ownBlock := fun k hk h => by have := HvlB.out k h.symm; omega
      have hWb5 := hW4.out.other (hgr.block W hW4.out.lt (fun h => hWL h.symm))
      have hM5 := hid (owns_other hM4.out (fun b hb => hgr.block b (World.ownsRow.lt hM4.out b hb).2 (fun h => hLM b h.symm hb)))
      have hV15 := hid (owns_other hV14.out (fun b hb => hgr.block b (World.ownsRow.lt hV14.out b hb).2 (hne b (by simp [Value.ownBlock] at hb; omega))))
      have hV25 := hid (owns_other hV24.out (fun b hb => hgr.block b (World.ownsRow.lt hV24.out b hb).2 (hne b (by simp [Value.ownBlock] at hb; omega))))
      have hV35 := hid (owns_other hV34.out (fun b hb => hgr.block b (World.ownsRow.lt hV34.out b hb).2 (hne b (by simp [Value.ownBlock] at hb; omega))))
      have hl5 := hid (held_other hh4.out (fun b hb hlt => hgr.block b.block hlt (fun h => hoL b.block h.symm (by rw [hb, Hao2.out b hb]))))
      have hF5 := hid ((hF4.out.mono (T := fun k => ao = some ⟨k, 0, none⟩ ∨ k = W ∨ some k = vl.ownBlock ∨ some k = vm.ownBlock) (fun k _ h => Or.inl h)).trans ((Fr.of_grown hgr).mono (fun k _ h => Or.inr (Or.inr (Or.inl h)))))
      have hz5 := hgr.size
      have f4 := hWb5.frozen 4
      have c45 := hWb5.cell 4
      rw [hvl, HlF.out] at c45
      have hvl'W : vl'.ownBlock ≠ some W := by
        rcases hat with h | h
        · rw [h]; exact hWL
        · rw [h]; intro hh; simp only [Option.some.injEq] at hh; omega
      have hatl : vl'.ownBlock = vl.ownBlock ∨ ∃ b, b3 < b ∧ vl'.ownBlock = some b := by
        rcases hat with h | h
        · exact Or.inl h
        · exact Or.inr ⟨_, by omega, h⟩
      have HatL := hid hatl
      have sc : ∀ b, b ≠ W → (w5.setCell ⟨W, 4, none⟩ vl').heap[b]? = w5.heap[b]? := fun b hb => Below.heap_setCell _ _ _ _ (by simpa using hb)
      have nW : ∀ b, w.heap.size ≤ b → b ≠ W := fun b hb => by omega
      have hW6 := hid (hWb5.set 4 vl')
      have hO6 := hid (owns_other hown (w' := w5.setCell ⟨W, 4, none⟩ vl') (fun b hb => sc b (fun h => hvl'W (by rw [hb, h]))))
      have hM6 := hid (owns_other hM5.out (w' := w5.setCell ⟨W, 4, none⟩ vl') (fun b hb => sc b (fun h => hWM (by rw [hb, h]))))
      have hV16 := hid (owns_other hV15.out (w' := w5.setCell ⟨W, 4, none⟩ vl') (fun b hb => sc b (nW b (by simp [Value.ownBlock] at hb; omega))))
      have hV26 := hid (owns_other hV25.out (w' := w5.setCell ⟨W, 4, none⟩ vl') (fun b hb => sc b (nW b (by simp [Value.ownBlock] at hb; omega))))
      have hV36 := hid (owns_other hV35.out (w' := w5.setCell ⟨W, 4, none⟩ vl') (fun b hb => sc b (nW b (by simp [Value.ownBlock] at hb; omega))))
      have hl6 := hid (held_other hl5.out (w' := w5.setCell ⟨W, 4, none⟩ vl') (fun b hb _ => sc b.block (fun h => hoW (by rw [hb, Hao2.out b hb, h]))))
      have hF6 := hid (hF5.out.trans ((Fr.of_ex ((Ex.refl W w5).setCell 4 vl')).mono (fun k _ h => Or.inr (Or.inl h))))
      have hz6 : (w5.setCell ⟨W, 4, none⟩ vl').heap.size = w5.heap.size := by simp [World.setCell]
      have c56 := hW6.out.cell 5
      rw [List.getElem?_set_ne (by decide), hvm, Hmf.out] at c56
      obtain ⟨al', nl', cl', hlf'⟩ : ∃ a n c, vl' = .slice a n c := by
        rcases hown.2 with ⟨h, h0⟩ | ⟨g', cap', cur, h, _⟩
        · exact ⟨_, _, _, h⟩
        · exact ⟨_, _, _, h⟩
      have hvlat := hO6.out
      have hvllt : ∀ b, vl'.ownBlock = some b → b < (w5.setCell ⟨W, 4, none⟩ vl').heap.size := fun b hb => (World.ownsRow.lt hO6.out b hb).2
      have Hvllt := hid hvllt
      clear hown hgr hiff hat hne hWb5 hM5 hV15 hV25 hV35 hl5 hF5 hW4 hM4 hV14 hV24 hV34 hh4 hF4 hL4 hnw4 c4 hatl sc nW hvlat hvllt
      subst hlf'
      rw [Hmf.out] at hM6
      have HF6z := hid (Nat.le_trans hN hF6.out.size)
      have hz6b : b3 < (w5.setCell ⟨W, 4, none⟩ (.slice al' nl' cl')).heap.size := by omega
      have hbl7 : Below (w5.setCell ⟨W, 4, none⟩ (.slice al' nl' cl')).heap.size (w5.setCell ⟨W, 4, none⟩ (.slice al' nl' cl')) ((w5.setCell ⟨W, 4, none⟩ (.slice al' nl' cl')).alloc (.cells #[Value.int .i64 (L.length : Int), Value.int .i64 (L.length : Int), Value.int .i64 (L.length : Int), Value.int .i64 (L.length : Int)] 3)) := (Below.refl _ _).alloc (Nat.le_refl _) _
      have hWq := hid (hW6.out.other (hbl7.block W hW6.out.lt))
      have hOq := hid (owns_below hO6.out hbl7)
      have hMq := hid (owns_below hM6.out hbl7)
      have hV1q := hid (owns_below hV16.out hbl7)
      have hV2q := hid (owns_below hV26.out hbl7)
      have hV3q := hid (owns_below hV36.out hbl7)
      have hlq := hid (held_below hl6.out hbl7)
      have hFq := hid (hF6.out.trans (Fr.of_below hbl7))
      have hzq := al_size (w5.setCell ⟨W, 4, none⟩ (.slice al' nl' cl')) (.cells #[Value.int .i64 (L.length : Int), Value.int .i64 (L.length : Int), Value.int .i64 (L.length : Int), Value.int .i64 (L.length : Int)] 3)
      have hnwq : Hd (∀ j u, [Value.int .i64 (L.length : Int), Value.int .i64 (L.length : Int), Value.int .i64 (L.length : Int), Value.int .i64 (L.length : Int)][j]? = some u → ((w5.setCell ⟨W, 4, none⟩ (.slice al' nl' cl')).alloc (.cells #[Value.int .i64 (L.length : Int), Value.int .i64 (L.length : Int), Value.int .i64 (L.length : Int), Value.int .i64 (L.length : Int)] 3)).cell? ((⟨w5.heap.size, 0, none⟩ : Addr).add j) = some u) := hid (fun j u hu => by
        rw [← hz6, Addr.add_mid, Nat.zero_add, cell_of_row _ _ _ _ _ _ (al_new (w5.setCell ⟨W, 4, none⟩ (.slice al' nl' cl')) _)]; simpa using hu)
      clear hW6 hO6 hM6 hV16 hV26 hV36 hl6 hF6 hbl7
      go_wp2_with (at_builtin; refine wpList_append_own_at _ rfl _ _ 32 rfl N 3 i3 (.int .i64 0) 1 8 Tryz.underlying32 hi3 hz30 hz31 hz32 rfl (by decide) _ _ _ rfl hMq.out ⟨w5.heap.size, 0, none⟩ 4 4 [Value.int .i64 (L.length : Int), Value.int .i64 (L.length : Int), Value.int .i64 (L.length : Int), Value.int .i64 (L.length : Int)] rfl rfl hnwq.out (fun u hu => by simp at hu; subst hu; rfl) (by unfold maxLen; omega) (by omega) (by have := HF6z.out; omega) ?_)
      intro vm' w8 hown hgr hiff hat
      rw [← Hmf.out] at hgr hat
      have hne : ∀ k, w.heap.size ≤ k → some k ≠ vm.ownBlock := fun k hk h => by have := HvmB.out k h.symm; omega
      have hnl : ∀ b, (Value.slice al' nl' cl').ownBlock = some b → some b ≠ vm.ownBlock := fun b hb h => by
        rcases HatL.out with h1 | ⟨b', hb', h1⟩
        · rw [h1] at hb; exact hLM b hb h.symm
        · rw [h1] at hb
          simp only [Option.some.injEq] at hb
          have := HvmB.out b h.symm
          omega
      have hWb8 := hWq.out.other (hgr.block W hWq.out.lt (fun h => hWM h.symm))
      have hO8 := hid (owns_other hOq.out (fun b hb => hgr.block b (World.ownsRow.lt hOq.out b hb).2 (hnl b hb)))
      have hV18 := hid (owns_other hV1q.out (fun b hb => hgr.block b (World.ownsRow.lt hV1q.out b hb).2 (hne b (by simp [Value.ownBlock] at hb; omega))))
      have hV28 := hid (owns_other hV2q.out (fun b hb => hgr.block b (World.ownsRow.lt hV2q.out b hb).2 (hne b (by simp [Value.ownBlock] at hb; omega))))
      have hV38 := hid (owns_other hV3q.out (fun b hb => hgr.block b (World.ownsRow.lt hV3q.out b hb).2 (hne b (by simp [Value.ownBlock] at hb; omega))))
      have hl8 := hid (held_other hlq.out (fun b hb hlt => hgr.block b.block hlt (fun h => hoM b.block h.symm (by rw [hb, Hao2.out b hb]))))
      have hF8 := hid (hFq.out.trans ((Fr.of_grown hgr).mono (T := fun k => ao = some ⟨k, 0, none⟩ ∨ k = W ∨ some k = vl.ownBlock ∨ some k = vm.ownBlock) (fun k _ h => Or.inr (Or.inr (Or.inr h)))))
      have f5 := hWb8.frozen 5
      have c58 := hWb8.cell 5
      rw [List.getElem?_set_ne (by decide), hvm, Hmf.out] at c58
      have hvm'W : vm'.ownBlock ≠ some W := by
        rcases hat with h | h
        · rw [h]; exact hWM
        · rw [h]; intro hh; simp only [Option.some.injEq] at hh; omega
      have hatm : vm'.ownBlock = vm.ownBlock ∨ ∃ b, b3 < b ∧ (Value.slice al' nl' cl').ownBlock ≠ some b ∧ vm'.ownBlock = some b := by
        rcases hat with h | h
        · exact Or.inl h
        · refine Or.inr ⟨_, by omega, fun hh => ?_, h⟩
          have := Hvllt.out _ hh
          omega
      have HatM := hid hatm
      have sc : ∀ b, b ≠ W → (w8.setCell ⟨W, 5, none⟩ vm').heap[b]? = w8.heap[b]? := fun b hb => Below.heap_setCell _ _ _ _ (by simpa using hb)
      have nW : ∀ b, w.heap.size ≤ b → b ≠ W := fun b hb => by omega
      have hW9 := hid (hWb8.set 5 vm')
      have hO9 := hid (owns_other hO8.out (w' := w8.setCell ⟨W, 5, none⟩ vm') (fun b hb => sc b (fun h => hvl'W (by rw [hb, h]))))
      have hM9 := hid (owns_other hown (w' := w8.setCell ⟨W, 5, none⟩ vm') (fun b hb => sc b (fun h => hvm'W (by rw [hb, h]))))
      have hV19 := hid (owns_other hV18.out (w' := w8.setCell ⟨W, 5, none⟩ vm') (fun b hb => sc b (nW b (by simp [Value.ownBlock] at hb; omega))))
      have hV29 := hid (owns_other hV28.out (w' := w8.setCell ⟨W, 5, none⟩ vm') (fun b hb => sc b (nW b (by simp [Value.ownBlock] at hb; omega))))
      have hV39 := hid (owns_other hV38.out (w' := w8.setCell ⟨W, 5, none⟩ vm') (fun b hb => sc b (nW b (by simp [Value.ownBlock] at hb; omega))))
      have hl9 := hid (held_other hl8.out (w' := w8.setCell ⟨W, 5, none⟩ vm') (fun b hb _ => sc b.block (fun h => hoW (by rw [hb, Hao2.out b hb, h]))))
      have hF9 := hid (hF8.out.trans ((Fr.of_ex ((Ex.refl W w8).setCell 5 vm')).mono (fun k _ h => Or.inr (Or.inl h))))
      obtain ⟨am', nm', cm', hmf'⟩ : ∃ a n c, vm' = .slice a n c := by
        rcases hown.2 with ⟨h, h0⟩ | ⟨g', cap', cur, h, _⟩
        · exact ⟨_, _, _, h⟩
        · exact ⟨_, _, _, h⟩
      clear hown hgr hiff hat hne hnl hWb8 hO8 hV18 hV28 hV38 hl8 hF8 hWq hOq hMq hV1q hV2q hV3q hlq hFq hnwq hatm sc nW c56
      subst hmf'
      go_wp2
      go_end0
      refine ⟨rfl, b1, b2, b3, c1_, c2_, c3_, .slice al' nl' cl', .slice am' nm' cm', hW9.out, hO9.out, ?_, ?_, owns_base hV19.out hlow1, owns_base hV29.out hlow2, owns_base hV39.out hlow3, hb1lo, by omega, by omega, HatL.out, HatM.out, hF9.out⟩
      · rw [List.map_append]; exact hM9.out
      · refine ⟨ao, xs.length, rfl, fun hp => ?_⟩
        obtain ⟨gb, hg⟩ := Hao.out (by omega)
        refine ⟨gb, 0, hg, fun j hj => ?_⟩
        have := hl9.out _ hg j (.int .u8 (dgt (L.length : Int) j)) (by simp [dgs, hj])
        rw [Addr.add_mid] at this
        exact this
end Go.Proofs.YtbifmhbkmnofiaaGreat
