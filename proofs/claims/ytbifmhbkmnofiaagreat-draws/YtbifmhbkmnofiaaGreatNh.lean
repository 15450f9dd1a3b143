import Derived.Test.YtbifmhbkmnofiaaGreatNg
namespace Go.Proofs.YtbifmhbkmnofiaaGreat
open Go.RowKit
set_option linter.unusedVariables false
set_option linter.unusedSimpArgs false
theorem wpAnyE_two {P : Program} {md : Region.Mode} {ops : Array Oper} {Q : Exit → Act → World → Prop} {S : World → Prop} {z i j : Nat} {o p : Oper} {fuel : Nat} {listed : Array Bool} {a : Act} {w : World} (hr : Region.ready md ops listed = [i, j]) (ho : ops[i]? = some o) (hp : ops[j]? = some p)
    (h : ∀ K' : Act → World → Prop, Hd (∀ a w, (i ≠ z → S w) → wpAnyE P md ops Q S z fuel (listed.setIfInBounds i true) a w → K' a w) → if Region.wanted o (yielded ops a.tmps) = true then Oper.wp P o a w K' Q else K' (a.put o.dst undef) w)
    (g : ∀ K' : Act → World → Prop, Hd (∀ a w, (j ≠ z → S w) → wpAnyE P md ops Q S z fuel (listed.setIfInBounds j true) a w → K' a w) → if Region.wanted p (yielded ops a.tmps) = true then Oper.wp P p a w K' Q else K' (a.put p.dst undef) w) : wpAnyE P md ops Q S z (fuel + 1) listed a w := by
  refine ⟨fun h0 => (by rw [hr] at h0; cases h0), fun q hq => ?_⟩
  rw [hr] at hq
  simp only [List.mem_cons, List.not_mem_nil, or_false] at hq
  rcases hq with rfl | rfl
  · exact wpOp_step ho (fun K' hK => h K' ⟨fun a w hS hW => hK a w ⟨hS, hW⟩⟩)
  · exact wpOp_step hp (fun K' hK => g K' ⟨fun a w hS hW => hK a w ⟨hS, hW⟩⟩)
theorem bne_of {a b : Int} (h : a ≠ b) : (a == b) = false := by simpa using h
/-- the step's copy of a pair -/
structure PairAt (w : World) (B X Y : Nat) : Prop where
  c0 : w.cell? ⟨B, 0, none⟩ = some (.pointer (some ⟨X, 0, none⟩))
  c1 : w.cell? ⟨B, 1, none⟩ = some (.pointer (some ⟨Y, 0, none⟩))
  lt : B < w.heap.size
theorem PairAt.other {w w' : World} {B X Y : Nat} (h : PairAt w B X Y) (hz : w.heap.size ≤ w'.heap.size) (he : w'.heap[B]? = w.heap[B]?) : PairAt w' B X Y := by
  have e : ∀ j, w'.cell? ⟨B, j, none⟩ = w.cell? ⟨B, j, none⟩ := fun j => by unfold World.cell?; rw [he]
  exact ⟨by rw [e]; exact h.c0, by rw [e]; exact h.c1, by have := h.lt; omega⟩
theorem PairAt.new (w : World) (X Y : Nat) (ty : TypeId) : PairAt (w.alloc (.cells #[.pointer (some ⟨X, 0, none⟩), .pointer (some ⟨Y, 0, none⟩)] ty)) w.heap.size X Y := by
  have h := al_new w (.cells #[.pointer (some ⟨X, 0, none⟩), .pointer (some ⟨Y, 0, none⟩)] ty)
  have hz := al_size w (.cells #[.pointer (some ⟨X, 0, none⟩), .pointer (some ⟨Y, 0, none⟩)] ty)
  exact ⟨cell_of_row _ _ 0 _ _ _ h, cell_of_row _ _ 1 _ _ _ h, by omega⟩
theorem wpList_bytes4 {ops : Array Oper} {rest : List Oper} {o : Oper} {a : Act} {w : World} {Q : Exit → Act → World → Prop} (hgd : o.guard = none) (x : Operand) (ho : o.op = .convert 9 41 x) (s : ByteArray) (hx : a.eval x = .string s) (hm : s.size ≤ 9223372036854775807)
    (h : ∀ w' cap, Below w.heap.size w w' → w'.heap.size = w.heap.size + 1 → Hd (Wr w' w.heap.size (bts s) cap) → cap ≤ 9223372036854775807 → wpList Tryz.prog ops Q rest (a.put o.dst (.slice (some ⟨w.heap.size, 0, none⟩) s.size cap)) w') : wpList Tryz.prog ops Q (o :: rest) a w :=
  wpList_plain hgd fun _ hK => by
    unfold Oper.wp execOp
    simp only [ho, hx, Sem.run_bind, Lib.run_convert_string_bytes w 9 41 5 s Tryz.underlying9 Tryz.underlying41 Tryz.underlying5, Result.andThen_ok, Sem.run_pure]
    exact hK _ _ (h _ _ (bytesW_below w 5 s) (Lib.bytesWorld_size w 5 s) ⟨bytesW_wr w s⟩ (grownCap_le_maxLen w s.size 0 5 hm))
set_option maxRecDepth 20000 in
set_option maxHeartbeats 1000000 in
theorem lend_cap (s : ByteArray) (w : World) (hs : s.size ≤ 140737488351232) :
    Calls Tryz.prog 25 #[.string s] w fun e w' => ∃ g cap, e = .returned (.slice (some ⟨g, 0, none⟩) (s.size + 8) cap) ∧ w.heap.size ≤ g ∧ Wr w' g (bts s ++ marks8 8) cap ∧ cap ≤ 9223372036854775807 ∧ Below w.heap.size w w' := by
  obtain ⟨i0, hi, hz0, hz1, hz2⟩ := info_parts Tryz.infoB
  have hbl := bts_len s
  go_enter Tryz.func25, Tryz.ntmps25
  go_wp2_with (refine wpList_bytes4 rfl _ rfl s rfl (by omega) ?_; intro w1 cap hB1 hz1' hwr1 hcap1)
  go_loopw [3, 4] (fun v i wr => ∃ (k g cap : Nat), k ≤ 8 ∧ i = .int .i64 k ∧ v = .slice (some ⟨g, 0, none⟩) (s.size + k) cap ∧ w.heap.size ≤ g ∧ g < wr.heap.size ∧ Wr wr g (bts s ++ marks8 k) cap ∧ cap ≤ 9223372036854775807 ∧ Below w.heap.size w wr) (fun _ i _ => 8 - (intOf i).toNat)
  case atStart => exact ⟨0, w.heap.size, cap, by omega, rfl, rfl, Nat.le_refl _, by omega, by simpa [marks8] using hwr1.out, hcap1, hB1⟩
  case round =>
    clear hwr1 hB1 hz1' hcap1
    obtain ⟨k, g, cap, hk, rfl, rfl, hg, hgl, hwr, hcm, hB⟩ := hrel
    have hxl : (bts s ++ marks8 k).length = s.size + k := by simp [marks8, hbl]
    by_cases hlt : k < 8
    · have hms := hid (show bts s ++ marks8 (k + 1) = (bts s ++ marks8 k) ++ [252] from by rw [marks8_succ, List.append_assoc])
      generalize bts s ++ marks8 k = X at *
      have hB2 : Below wr.heap.size wr (wr.alloc (.cells #[Value.int .u8 252] 5)) := (Below.refl _ _).alloc (Nat.le_refl _) _
      have hwr2 := hid (hwr.other (hB2.block g hgl))
      have hC2 := hid (hB.trans (hB2.mono hB.size))
      have hcn := hid (cell_one_new wr (.int .u8 252) 5)
      have hz2' := al_size wr (.cells #[Value.int .u8 252] 5)
      have hzB := hB.size
      have holds : Hd (∀ j u, (X.map (Value.int .u8))[j]? = some u → (wr.alloc (.cells #[Value.int .u8 252] 5)).cell? ⟨g, 0 + j, none⟩ = some u) := hid fun j u hu => by
        have hj : j < X.length := by simpa using (List.getElem?_eq_some_iff.1 hu).1
        rw [Nat.zero_add, hwr2.out.cells j hj, ← hu]
        simp [List.getElem?_eq_getElem hj]
      have hspare : Hd (s.size + k + 1 ≤ cap → ∀ j, j < [Value.int .u8 252].length → ((wr.alloc (.cells #[Value.int .u8 252] 5)).cell? ⟨g, 0 + (s.size + k) * 1 + j, none⟩).isSome = true ∧ (wr.alloc (.cells #[Value.int .u8 252] 5)).frozen? ⟨g, 0 + (s.size + k) * 1 + j, none⟩ = false) := hid fun hr j hj => by
        have hj0 : j = 0 := by simpa using hj
        subst hj0
        have := hwr2.out.room (s.size + k) (by omega)
        simpa using this
      have hlen : Hd ((X.map (Value.int .u8)).length = (s.size + k) * 1) := hid (by simp [hxl])
      clear hwr hB
      go_wp2_with (at_builtin; refine wpList_append_arg _ rfl _ _ 41 rfl 5 i0 (.int .u8 0) 1 1 Tryz.underlying41 hi hz0 hz1 hz2 rfl (by decide) g 0 (s.size + k) cap (X.map (Value.int .u8)) rfl hlen.out holds.out ⟨wr.heap.size, 0, none⟩ 1 1 [.int .u8 252] rfl rfl hcn.out (fun u hu => by simp at hu; subst hu; rfl) hspare.out (by unfold maxLen; omega) (by omega) ?_ ?_)
      · intro hr
        have hpush := hwr2.out.push 252 (by omega)
        rw [hxl] at hpush
        have HP := hid hpush
        have HC := hid (hC2.out.trans ((Ex.refl g _).setCells (s.size + k) [.int .u8 252] |>.below hg (by omega)))
        clear hpush holds hspare hcn hlen hwr2 hC2
        have hgl2 : g < ((wr.alloc (.cells #[Value.int .u8 252] 5)).setCells g (s.size + k) [.int .u8 252]).heap.size := by rw [(setCells_rest g [.int .u8 252] (s.size + k) _).2.2.2]; omega
        generalize ((wr.alloc (.cells #[Value.int .u8 252] 5)).setCells g (s.size + k) [.int .u8 252]) = w5 at *
        go_wp2
        exact ⟨⟨k + 1, g, cap, by omega, by go_num, by first | rfl | (congr 1), hg, hgl2, by rw [hms.out]; exact HP.out, hcm, HC.out⟩, by simp [intOf]; omega⟩
      · intro hr v' w' hown hgr
        have hown2 : w'.ownsRow (wr.heap.size + 1) 5 1 v' (s.size + k + 1) ((X ++ [252]).map (Value.int .u8)) := by rw [List.map_append]; exact hown
        obtain ⟨g', cap', rfl, hg', hle', hm', hwr'⟩ := Wr.of_owns hown2 (by omega)
        have hlt' : g' < w'.heap.size := by
          obtain ⟨u, hu⟩ := Option.isSome_iff_exists.1 (hwr'.room 0 (by omega)).1
          exact World.block_lt_of_cell? w' _ hu
        have HC := hid (hC2.out.grown hgr hC2.out.size (fun j hj => by cases hj))
        have HW := hid hwr'
        clear hown hown2 hgr hwr' holds hspare hcn hlen hwr2 hC2
        go_wp2
        exact ⟨⟨k + 1, g', cap', by omega, by go_num, by first | rfl | (congr 1), by omega, hlt', by rw [hms.out]; exact HW.out, hm', HC.out⟩, by simp [intOf]; omega⟩
    · obtain rfl : k = 8 := by omega
      go_wp2
      go_ret
      exact ⟨g, cap, rfl, hg, hwr, hcm, hB⟩
set_option maxRecDepth 20000 in
set_option maxHeartbeats 1000000 in
theorem sums_none (o : OpV) (N Wb k : Nat) (own : Nat → Tag) (t : Sta) (w : World) (h : Inv noTag w N Wb k own t) (hk : o.kind = 4 ∨ o.kind = 5) (h0 : t.sms.length = 0) :
    Calls Tryz.prog 11 #[.pointer (some ⟨Wb, 0, none⟩), o.val] w fun e w' => e = .returned (.bool true) ∧ Below w.heap.size w w' := by
  have HB := hid ((Below.refl w.heap.size w).alloc (Nat.le_refl _) o.obj)
  have hI := h.below HB.out .op
  have c0 := (hI.wb (fun hh => hh)).cell 0
  obtain ⟨a0, n0, hv0⟩ := owns_slice (hI.r0.own_ (fun hh => hh))
  rw [h0] at hv0
  have hv : t.vs[0]? = some t.v0 := rfl
  rw [hv, hv0] at c0
  clear hI h hv hv0
  unfold OpV.obj at HB c0
  obtain ⟨kd, a, n, s, t0, u, x, y, z⟩ := o
  dsimp only at hk HB c0
  unfold OpV.val
  dsimp only
  rcases hk with rfl | rfl
  · go_enter Tryz.func11, Tryz.ntmps11
    go_wp2
    go_ret
    exact ⟨rfl, HB.out⟩
  · go_enter Tryz.func11, Tryz.ntmps11
    go_wp2
    go_ret
    exact ⟨rfl, HB.out⟩
set_option maxRecDepth 20000 in
set_option maxHeartbeats 1000000 in
theorem draws_none (o : OpV) (N Wb k : Nat) (own : Nat → Tag) (t : Sta) (w : World) (h : Inv noTag w N Wb k own t) (hk : o.kind = 7 ∨ o.kind = 8) (h0 : t.sos.length = 0) :
    Calls Tryz.prog 12 #[.pointer (some ⟨Wb, 0, none⟩), o.val] w fun e w' => e = .returned (.bool true) ∧ Below w.heap.size w w' := by
  have HB := hid ((Below.refl w.heap.size w).alloc (Nat.le_refl _) o.obj)
  have hI := h.below HB.out .op
  have c0 := (hI.wb (fun hh => hh)).cell 1
  obtain ⟨a0, n0, hv0⟩ := owns_slice (hI.r1.own_ (fun hh => hh))
  rw [h0] at hv0
  have hv : t.vs[1]? = some t.v1 := rfl
  rw [hv, hv0] at c0
  clear hI h hv hv0
  unfold OpV.obj at HB c0
  obtain ⟨kd, a, n, s, t0, u, x, y, z⟩ := o
  dsimp only at hk HB c0
  unfold OpV.val
  dsimp only
  rcases hk with rfl | rfl
  · go_enter Tryz.func12, Tryz.ntmps12
    go_wp2
    go_ret
    exact ⟨rfl, HB.out⟩
  · go_enter Tryz.func12, Tryz.ntmps12
    go_wp2
    go_ret
    exact ⟨rfl, HB.out⟩
set_option maxRecDepth 20000 in
set_option maxHeartbeats 1000000 in
theorem watches_none (o : OpV) (N Wb k : Nat) (own : Nat → Tag) (t : Sta) (w : World) (h : Inv noTag w N Wb k own t) (hk : o.kind = 10 ∨ o.kind = 11) (h0 : t.gus.length = 0) :
    Calls Tryz.prog 13 #[.pointer (some ⟨Wb, 0, none⟩), o.val] w fun e w' => e = .returned (.bool true) ∧ Below w.heap.size w w' := by
  have HB := hid ((Below.refl w.heap.size w).alloc (Nat.le_refl _) o.obj)
  have hI := h.below HB.out .op
  have c0 := (hI.wb (fun hh => hh)).cell 2
  obtain ⟨a0, n0, hv0⟩ := owns_slice (hI.r2.own_ (fun hh => hh))
  rw [h0] at hv0
  have hv : t.vs[2]? = some t.v2 := rfl
  rw [hv, hv0] at c0
  clear hI h hv hv0
  unfold OpV.obj at HB c0
  obtain ⟨kd, a, n, s, t0, u, x, y, z⟩ := o
  dsimp only at hk HB c0
  unfold OpV.val
  dsimp only
  rcases hk with rfl | rfl
  · go_enter Tryz.func13, Tryz.ntmps13
    go_wp2
    go_ret
    exact ⟨rfl, HB.out⟩
  · go_enter Tryz.func13, Tryz.ntmps13
    go_wp2
    go_ret
    exact ⟨rfl, HB.out⟩
set_option maxRecDepth 20000 in
set_option maxHeartbeats 1000000 in
theorem flows_none (o : OpV) (N Wb k : Nat) (own : Nat → Tag) (t : Sta) (w : World) (h : Inv noTag w N Wb k own t) (hk : o.kind = 13 ∨ o.kind = 14 ∨ o.kind = 15) (h0 : t.wes.length = 0) :
    Calls Tryz.prog 14 #[.pointer (some ⟨Wb, 0, none⟩), o.val] w fun e w' => e = .returned (.bool true) ∧ Below w.heap.size w w' := by
  have HB := hid ((Below.refl w.heap.size w).alloc (Nat.le_refl _) o.obj)
  have hI := h.below HB.out .op
  have c0 := (hI.wb (fun hh => hh)).cell 3
  obtain ⟨a0, n0, hv0⟩ := owns_slice (hI.r3.own_ (fun hh => hh))
  rw [h0] at hv0
  have hv : t.vs[3]? = some t.v3 := rfl
  rw [hv, hv0] at c0
  clear hI h hv hv0
  unfold OpV.obj at HB c0
  obtain ⟨kd, a, n, s, t0, u, x, y, z⟩ := o
  dsimp only at hk HB c0
  unfold OpV.val
  dsimp only
  rcases hk with rfl | rfl | rfl
  · go_enter Tryz.func14, Tryz.ntmps14
    go_wp2
    go_ret
    exact ⟨rfl, HB.out⟩
  · go_enter Tryz.func14, Tryz.ntmps14
    go_wp2
    go_ret
    exact ⟨rfl, HB.out⟩
  · go_enter Tryz.func14, Tryz.ntmps14
    go_wp2
    go_ret
    exact ⟨rfl, HB.out⟩
/-- what a summer has behind 'Add' -/
def addT (s d : ByteArray) : ByteArray := if d.size ≤ 300 then s ++ d else s
def addE (d : ByteArray) : Int := if d.size ≤ 300 then 0 else 2
theorem addT_size (s d : ByteArray) : (addT s d).size ≤ s.size + 300 := by
  unfold addT
  split
  · rw [ByteArray.size_append]; omega
  · omega
theorem feed_nil (s : DS) : feed s [] = s := rfl
set_option maxRecDepth 20000 in
set_option maxHeartbeats 400000 in
theorem sadd_gen (s d : ByteArray) (B : Nat) (v : Value) (w : World) (hS : StAt w B (feed DSN (bts s))) (hv : Byt w v (bts d)) (hvB : ∀ ad n c, v = .slice (some ad) n c → 0 < n → ad.block ≠ B) (hs : s.size ≤ 1125899906842624) (hd : d.size ≤ 9223372036854775807) :
    Calls Tryz.prog 26 #[.pointer (some ⟨B, 0, none⟩), v] w fun e w' => e = .returned (.int .i64 (addE d)) ∧ StAt w' B (feed DSN (bts (addT s d))) ∧ Ex B w w' := by
  have hl := bts_len d
  by_cases h3 : d.size ≤ 300
  · unfold addE addT
    rw [if_pos h3, if_pos h3, bts_append, feed_append]
    have hok := feed_ok DSN_ok (bts s)
    have hfn := feed_n DSN (bts s)
    rw [bts_len] at hfn
    have hdn : DSN.n = 0 := rfl
    have A : Hd (Calls Tryz.prog 58 #[.pointer (some ⟨B, 0, none⟩), v] w fun e w' => e = .returned (.tuple #[]) ∧ StAt w' B (feed (feed DSN (bts s)) (bts d)) ∧ Ex B w w') := by
      rcases hv with ⟨h0, a, cap, rfl⟩ | ⟨db, off, cap, rfl, hc⟩
      · rw [h0, feed_nil]
        refine hid ((Add_empty (feed DSN (bts s)) B cap a w).mono ?_)
        rintro e w' ⟨rfl, rfl⟩
        exact ⟨rfl, hS, Ex.refl _ _⟩
      · by_cases hp : 0 < (bts d).length
        · exact hid (Add_any _ (bts d) B db off cap w hok hS (hvB _ _ _ rfl hp) hc (by omega))
        · have h0 : bts d = [] := List.eq_nil_of_length_eq_zero (by omega)
          rw [h0, feed_nil]
          refine hid ((Add_empty (feed DSN (bts s)) B cap _ w).mono ?_)
          rintro e w' ⟨rfl, rfl⟩
          exact ⟨rfl, hS, Ex.refl _ _⟩
    obtain ⟨a, cap, rfl, _⟩ := hv.form
    have hl' : ((bts d).length : Int) ≤ 300 := by omega
    clear hv hvB hS hl hfn hdn hok
    go_enter Tryz.func26, Tryz.ntmps26
    go_wp2_with fail
    refine A.out.mono ?_
    rintro e w2 ⟨rfl, hS2, hE2⟩
    go_wp2
    go_ret
    exact ⟨rfl, hS2, hE2⟩
  · unfold addE addT
    rw [if_neg h3, if_neg h3]
    obtain ⟨a, cap, rfl, _⟩ := hv.form
    refine (SAdd_no B a _ cap w (by omega) (by omega)).mono ?_
    rintro e w' ⟨rfl, rfl⟩
    exact ⟨rfl, hS, Ex.refl _ _⟩
set_option maxHeartbeats 400000 in
theorem radd_gen (s d : ByteArray) (Y : Nat) (w : World) (hS : WbAt w Y [.string s]) (hs : s.size ≤ 1125899906842624) (hd : d.size ≤ 9223372036854775807) :
    Calls Tryz.prog 27 #[.pointer (some ⟨Y, 0, none⟩), .string d] w fun e w' => e = .returned (.int .i64 (addE d)) ∧ WbAt w' Y [.string (addT s d)] ∧ Ex Y w w' := by
  have c0 := hS.cell 0
  have f0 := hS.frozen 0
  have hset := hid (hS.set 0 (.string (s ++ d)))
  have hE := hid ((Ex.refl Y w).setCell 0 (.string (s ++ d)))
  simp only [List.getElem?_cons_zero] at c0
  by_cases h3 : d.size ≤ 300
  · unfold addE addT
    rw [if_pos h3, if_pos h3]
    have h3' : ¬ (300 : Int) < d.size := by omega
    have hnb : ¬ 9223372036854775807 < s.size + d.size := by omega
    clear hS
    go_enter Tryz.func27, Tryz.ntmps27
    go_wp2
    go_ret
    exact ⟨rfl, hset.out, hE.out⟩
  · unfold addE addT
    rw [if_neg h3, if_neg h3]
    have h3' : (300 : Int) < d.size := by omega
    go_enter Tryz.func27, Tryz.ntmps27
    go_wp2
    go_ret
    exact ⟨rfl, hS, Ex.refl _ _⟩
theorem Wr.byt {w : World} {g cap : Nat} {s : ByteArray} (h : Wr w g (bts s ++ marks8 8) cap) (c : Nat) : Byt w (.slice (some ⟨g, 0, none⟩) s.size c) (bts s) := by
  refine .inr ⟨g, 0, c, by rw [bts_len], fun j hj => ?_⟩
  rw [Nat.zero_add, h.cells j (by rw [List.length_append]; omega), List.getElem?_append_left hj]
end Go.Proofs.YtbifmhbkmnofiaaGreat
