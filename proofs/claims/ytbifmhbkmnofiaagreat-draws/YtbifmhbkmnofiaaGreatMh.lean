import Derived.Test.YtbifmhbkmnofiaaGreatMg
namespace Go.Proofs.YtbifmhbkmnofiaaGreat
open Go.RowKit
set_option linter.unusedVariables false
set_option linter.unusedSimpArgs false
def oAt (o : List Int) (i : Nat) : Int := if i < o.length then o[o.length - 1 - i]?.getD 0 else 0
def car (V o : List Int) : Nat → Int
  | 0 => 0
  | i + 1 => (V[54 - i]?.getD 0 + car V o i + oAt o i) / 256
def addAt (V o : List Int) (i : Nat) : Int := (V[54 - i]?.getD 0 + car V o i + oAt o i) % 256
/-- two numbers of 55 bytes added, what carries beyond the top lost -/
def addI (V o : List Int) : List Int := (List.range 55).map (fun j => addAt V o (54 - j))
theorem addI_len (V o : List Int) : (addI V o).length = 55 := by simp [addI]
theorem addI_B (V o : List Int) : allB (addI V o) := by
  intro x hx
  simp only [addI, List.mem_map] at hx
  obtain ⟨j, _, rfl⟩ := hx
  unfold addAt
  omega
theorem addI_congr (V o o' : List Int) (h : ∀ i, i < 55 → oAt o i = oAt o' i) : addI V o = addI V o' := by
  have hc : ∀ i, i ≤ 55 → car V o i = car V o' i := by
    intro i
    induction i with
    | zero => intro _; rfl
    | succ i ih => intro hi; rw [car, car, ih (by omega), h i (by omega)]
  unfold addI
  apply List.map_congr_left
  intro j hj
  unfold addAt
  rw [hc _ (by omega), h _ (by omega)]
theorem getD_B {xs : List Int} (h : allB xs) (j : Nat) : 0 ≤ xs[j]?.getD 0 ∧ xs[j]?.getD 0 ≤ 255 := by
  by_cases hj : j < xs.length
  · rw [List.getElem?_eq_getElem hj]
    have := h xs[j] (List.getElem_mem hj)
    simp only [Option.getD_some]
    omega
  · rw [List.getElem?_eq_none (by omega)]; simp
theorem oAt_B {o : List Int} (h : allB o) (i : Nat) : 0 ≤ oAt o i ∧ oAt o i ≤ 255 := by
  unfold oAt
  split
  · exact getD_B h _
  · simp
theorem car_B {V o : List Int} (hV : allB V) (ho : allB o) : ∀ i, 0 ≤ car V o i ∧ car V o i ≤ 1
  | 0 => by simp [car]
  | i + 1 => by
    have h1 := car_B hV ho i
    have h2 := getD_B hV (54 - i)
    have h3 := oAt_B ho i
    rw [car]
    omega
def mixd (V o : List Int) (k : Nat) : List Int := V.take (55 - k) ++ (addI V o).drop (55 - k)
theorem mixd_zero (V o : List Int) (h : V.length = 55) : mixd V o 0 = V := by
  unfold mixd
  rw [List.take_of_length_le (by omega), List.drop_of_length_le (by rw [addI_len]; omega), List.append_nil]
theorem mixd_end (V o : List Int) : mixd V o 55 = addI V o := by simp [mixd]
theorem mixd_len (V o : List Int) (h : V.length = 55) (k : Nat) (hk : k ≤ 55) : (mixd V o k).length = 55 := by
  unfold mixd
  rw [List.length_append, List.length_take, List.length_drop, addI_len]; omega
theorem mixd_get (V o : List Int) (h : V.length = 55) (k : Nat) (hk : k < 55) : (mixd V o k)[54 - k]?.getD 0 = V[54 - k]?.getD 0 := by
  unfold mixd
  rw [List.getElem?_append_left (by rw [List.length_take]; omega), List.getElem?_take, if_pos (by omega)]
theorem mixd_step (V o : List Int) (h : V.length = 55) (k : Nat) (hk : k < 55) : mixd V o (k + 1) = (mixd V o k).set (54 - k) (addAt V o k) := by
  unfold mixd
  rw [List.set_append_left _ _ (by rw [List.length_take]; omega)]
  have e1 : V.take (55 - k) = V.take (55 - (k + 1)) ++ [V[54 - k]'(by omega)] := by
    rw [show 55 - k = (55 - (k + 1)) + 1 by omega, List.take_succ_eq_append_getElem (by omega)]
    congr 2
    congr 1
    omega
  rw [e1, List.set_append_right _ _ (by rw [List.length_take]; omega), List.length_take, show 54 - k - min (55 - (k + 1)) V.length = 0 by omega, List.set_cons_zero, List.append_assoc]
  congr 1
  rw [List.drop_eq_getElem_cons (show 55 - (k + 1) < (addI V o).length by rw [addI_len]; omega)]
  rw [show 55 - (k + 1) + 1 = 55 - k by omega]
  simp only [List.singleton_append, List.cons.injEq, and_true]
  simp only [addI, List.getElem_map, List.getElem_range]
  congr 1
  omega
/-- 55 bytes within a block -/
def NumAt (w : World) (B : Nat) (pre post : List Value) (V : List Int) : Prop := ∃ t, w.heap[B]? = some (.cells (pre ++ (V.map (Value.int .u8) ++ post)).toArray t (0, 0))
theorem NumAt.cell {w : World} {B : Nat} {pre post : List Value} {V : List Int} (h : NumAt w B pre post V) (i : Nat) : w.cell? ⟨B, i, none⟩ = (pre ++ (V.map (Value.int .u8) ++ post))[i]? := by
  obtain ⟨t, h⟩ := h
  rw [cell_of_row w B i _ t _ h]; simp
theorem NumAt.frozen {w : World} {B : Nat} {pre post : List Value} {V : List Int} (h : NumAt w B pre post V) (i : Nat) : w.frozen? ⟨B, i, none⟩ = false := by
  obtain ⟨t, h⟩ := h
  simp [World.frozen?, h]
theorem NumAt.mid {w : World} {B : Nat} {pre post : List Value} {V : List Int} (h : NumAt w B pre post V) (j : Nat) (hj : j < V.length) : w.cell? ⟨B, pre.length + j, none⟩ = some (.int .u8 (V[j]?.getD 0)) := by
  rw [h.cell, List.getElem?_append_right (by omega), List.getElem?_append_left (by simp; omega)]
  simp [List.getElem?_eq_getElem hj]
theorem NumAt.set {w : World} {B : Nat} {pre post : List Value} {V : List Int} (h : NumAt w B pre post V) (j : Nat) (hj : j < V.length) (x : Int) : NumAt (w.setCell ⟨B, pre.length + j, none⟩ (.int .u8 x)) B pre post (V.set j x) := by
  obtain ⟨t, h⟩ := h
  refine ⟨t, ?_⟩
  simp only [World.setCell, Array.getElem?_modify, if_pos, h, Option.map_some]
  congr 2
  simp only [List.setIfInBounds_toArray]
  rw [List.set_append_right _ _ (by omega), Nat.add_sub_cancel_left, List.set_append_left _ _ (by simp; omega), List.map_set]
  rfl
set_option maxRecDepth 20000 in
set_option maxHeartbeats 1000000 in
theorem nadd_any (V o : List Int) (B ob oo oc off : Nat) (pre post : List Value) (w : World) (hV : V.length = 55) (hVB : allB V) (hoB : allB o) (hol : o.length ≤ 1000) (hpre : pre.length = off) (hS : NumAt w B pre post V)
    (hoth : ∀ wr X, NumAt wr B pre post X → X.length = 55 → Ex B w wr → ∀ j, j < o.length → wr.cell? ⟨ob, oo + j, none⟩ = some (.int .u8 (o[j]?.getD 0))) :
    Calls Tryz.prog 118 #[.pointer (some ⟨B, off, none⟩), .slice (some ⟨ob, oo, none⟩) o.length oc] w fun e w' => e = .returned (.tuple #[]) ∧ NumAt w' B pre post (addI V o) ∧ Ex B w w' := by
  subst hpre
  have Hoth := hid hoth
  clear hoth
  go_enter Tryz.func118, Tryz.ntmps118
  go_wp2
  go_loopw [4, 7] (fun c i wr => ∃ k : Nat, k ≤ 55 ∧ i = .int .i64 k ∧ c = .int .i64 (car V o k) ∧ NumAt wr B pre post (mixd V o k) ∧ Ex B w wr) (fun _ i _ => 55 - (intOf i).toNat)
  case atStart => exact ⟨0, by omega, rfl, rfl, by rw [mixd_zero V o hV]; exact hS, Ex.refl _ _⟩
  case round =>
    clear hS
    obtain ⟨k, hk, rfl, rfl, hS, hE⟩ := hrel
    by_cases hlt : k < 55
    · have hml := mixd_len V o hV k hk
      have c1 := hS.mid (54 - k) (by omega)
      rw [mixd_get V o hV k hlt] at c1
      have f1 := hS.frozen (pre.length + (54 - k))
      have hst := hid (mixd_step V o hV k hlt)
      have hset := hid (hS.set (54 - k) (by omega) (addAt V o k))
      have hrd := hid (Hoth.out wr _ hS hml hE)
      have hcs := hid (show car V o (k + 1) = (V[54 - k]?.getD 0 + car V o k + oAt o k) / 256 from rfl)
      have hat := hid (show addAt V o k = (V[54 - k]?.getD 0 + car V o k + oAt o k) % 256 from rfl)
      have b1 := car_B hVB hoB k
      have b2 := getD_B hVB (54 - k)
      have b3 := oAt_B hoB k
      have b11 := b1.1
      have b12 := b1.2
      have b21 := b2.1
      have b22 := b2.2
      have b31 := b3.1
      have b32 := b3.2
      clear b1 b2 b3
      have q1 : (54 - (k : Int)).toNat = 54 - k := by omega
      have q2 : (0 : Int) ≤ 54 - (k : Int) := by omega
      have hE2 := hid hE
      have HS := hid hS
      clear hS hE
      by_cases hko : k < o.length
      · have hoe := hid (show oAt o k = o[o.length - 1 - k]?.getD 0 from by unfold oAt; rw [if_pos hko])
        have c2 := hrd.out (o.length - 1 - k) (by omega)
        rw [← hoe.out] at c2
        have hko' : (k : Int) < o.length := by omega
        have q3 : ((o.length : Int) - 1 - k).toNat = o.length - 1 - k := by omega
        have q4 : (0 : Int) ≤ (o.length : Int) - 1 - k := by omega
        have q5 : (1 : Int) ≤ (o.length : Int) := by omega
        generalize V[54 - k]?.getD 0 = x at *
        generalize car V o k = c at *
        generalize oAt o k = y at *
        go_wp2
        rw [← hat.out]
        exact ⟨⟨k + 1, by omega, by go_num, by rw [hcs.out], by rw [hst.out]; exact hset.out, hE2.out.setCell _ _⟩, by simp [intOf]; omega⟩
      · have hoe := hid (show oAt o k = 0 from by unfold oAt; rw [if_neg hko])
        have hcs2 : Hd (car V o (k + 1) = (V[54 - k]?.getD 0 + car V o k) / 256) := hid (by rw [hcs.out, hoe.out, Int.add_zero])
        have hat2 : Hd (addAt V o k = (V[54 - k]?.getD 0 + car V o k) % 256) := hid (by rw [hat.out, hoe.out, Int.add_zero])
        have hko' : ¬ (k : Int) < o.length := by omega
        clear hcs hat hoe b31 b32
        generalize V[54 - k]?.getD 0 = x at *
        generalize car V o k = c at *
        go_wp2
        rw [← hat2.out]
        exact ⟨⟨k + 1, by omega, by go_num, by rw [hcs2.out], by rw [hst.out]; exact hset.out, hE2.out.setCell _ _⟩, by simp [intOf]; omega⟩
    · obtain rfl : k = 55 := by omega
      rw [mixd_end] at hS
      go_wp2
      go_end0
      exact ⟨rfl, hS, hE⟩
end Go.Proofs.YtbifmhbkmnofiaaGreat
namespace Go.Proofs.YtbifmhbkmnofiaaGreat
open Go.RowKit
set_option linter.unusedVariables false
set_option linter.unusedSimpArgs false
theorem NumAt.other {w w' : World} {B : Nat} {pre post : List Value} {V : List Int} (h : NumAt w B pre post V) (he : w'.heap[B]? = w.heap[B]?) : NumAt w' B pre post V := by
  obtain ⟨t, h⟩ := h
  exact ⟨t, he.trans h⟩
theorem NumAt.lt {w : World} {B : Nat} {pre post : List Value} {V : List Int} (h : NumAt w B pre post V) : B < w.heap.size := by
  obtain ⟨t, h⟩ := h
  exact (Array.getElem?_eq_some_iff.1 h).1
theorem Tryz.alloc196 (w : World) : Sem.run Tryz.prog (Instr.alloc 196 true (Value.tuple #[])) w = .ok (.pointer (some ⟨w.heap.size, 0, none⟩)) (w.alloc (.cells (ints .u8 Z8) 196)) := by kernel_rfl
def be8 (n : Int) : List Int := lenBytes n 8
theorem lenBytes_B (n : Int) : ∀ k, allB (lenBytes n k)
  | 0 => by intro x hx; simp [lenBytes] at hx
  | k + 1 => by
    intro x hx
    rw [lenBytes, List.mem_append] at hx
    rcases hx with hx | hx
    · exact lenBytes_B n k x hx
    · simp only [List.mem_singleton] at hx
      subst hx
      unfold lenB; omega
def part8 (n : Int) (k : Nat) : List Int := lenBytes n k ++ zeros (8 - k)
theorem part8_len (n : Int) (k : Nat) (h : k ≤ 8) : (part8 n k).length = 8 := by simp [part8, lenBytes_len, zeros_len]; omega
theorem part8_step (n : Int) (k : Nat) (h : k < 8) : part8 n (k + 1) = (part8 n k).set k (lenB n k) := by
  unfold part8 zeros
  rw [List.set_append_right _ _ (by rw [lenBytes_len]; omega), lenBytes_len, Nat.sub_self, show 8 - k = (8 - (k + 1)) + 1 by omega, List.replicate_succ (n := 8 - (k + 1)), List.set_cons_zero, lenBytes, List.append_assoc]; rfl
theorem part8_get (n : Int) (k : Nat) (h : k < 8) : (part8 n k)[k]?.getD 0 = 0 := by
  unfold part8 zeros
  rw [List.getElem?_append_right (by rw [lenBytes_len]; omega), lenBytes_len, Nat.sub_self, List.getElem?_replicate, if_pos (by omega)]; rfl
theorem part8_end (n : Int) : part8 n 8 = be8 n := by simp [part8, be8, zeros]
set_option maxRecDepth 20000 in
set_option maxHeartbeats 1000000 in
theorem nsmall_any (V : List Int) (n : Int) (B off : Nat) (pre post : List Value) (w : World) (hV : V.length = 55) (hVB : allB V) (hpre : pre.length = off) (hS : NumAt w B pre post V) (hn0 : 0 ≤ n) (hn1 : n ≤ 18446744073709551615) :
    Calls Tryz.prog 121 #[.pointer (some ⟨B, off, none⟩), .int .u64 n] w fun e w' => e = .returned (.tuple #[]) ∧ NumAt w' B pre post (addI V (be8 n)) ∧ Ex B w w' := by
  have hlt := hS.lt
  have hb1 := al_new w (.cells (ints .u8 Z8) 196)
  have hB1 : Below w.heap.size w (w.alloc (.cells (ints .u8 Z8) 196)) := (Below.refl _ _).alloc (Nat.le_refl _) _
  have HS := hid hS
  clear hS
  go_enter Tryz.func121, Tryz.ntmps121
  go_wp2_with (refine wpList_alloc_eq rfl 196 rfl (ints .u8 Z8) Tryz.alloc196 ?_)
  generalize (w.alloc (.cells (ints .u8 Z8) 196)) = w1 at *
  go_loopw [6] (fun i wr => ∃ k : Nat, k ≤ 8 ∧ i = .int .i64 k ∧ wr.heap[w.heap.size]? = some (.cells (ints .u8 (part8 n k)) 196 (0, 0)) ∧ Below w.heap.size w wr) (fun i _ => 8 - (intOf i).toNat)
  case atStart => exact ⟨0, by omega, rfl, hb1, hB1⟩
  case round =>
    clear hb1 hB1
    obtain ⟨k, hk, rfl, hb, hB⟩ := hrel
    by_cases hk8 : k < 8
    · have hpl := part8_len n k hk
      obtain ⟨hc, hf⟩ := cells_of _ _ _ _ _ hb
      have c1 := hc k (by omega)
      have f1 := hf k
      have hset := hid (setCell_ints _ _ k .u8 _ (lenB n k) _ hb)
      have hst := hid (part8_step n k hk8)
      have hbn := hid (show lenB n k = n / 2 ^ (56 - 8 * k) % 256 from rfl)
      rw [part8_get n k hk8] at c1
      have e56 : (56 - 8 * (k : Int)).toNat = 56 - 8 * k := by omega
      have e57 : (0 : Int) ≤ 56 - 8 * (k : Int) := by omega
      clear hc hf hb
      go_wp2
      rw [← hbn.out]
      exact ⟨⟨k + 1, by omega, by go_num, by rw [hst.out]; exact hset.out, hB.setCell (by simp) _⟩, by simp [intOf]; omega⟩
    · obtain rfl : k = 8 := by omega
      rw [part8_end] at hb
      have hS := HS.out.other (hB.block B hlt)
      have hlen : (be8 n).length = 8 := lenBytes_len n 8
      have hoth : ∀ wx X, NumAt wx B pre post X → X.length = 55 → Ex B wr wx → ∀ j, j < (be8 n).length → wx.cell? ⟨w.heap.size, 0 + j, none⟩ = some (.int .u8 ((be8 n)[j]?.getD 0)) := fun wx X _ _ hx j hj => by
        have h1 := (hx.block w.heap.size (Array.getElem?_eq_some_iff.1 hb).1 (by omega)).trans hb
        rw [Nat.zero_add]
        exact (cells_of _ _ _ _ _ h1).1 j hj
      have hc := nadd_any V (be8 n) B w.heap.size 0 8 off pre post wr hV hVB (lenBytes_B n 8) (by omega) hpre hS hoth
      rw [hlen] at hc
      have Hc := hid hc
      clear hc hoth hS hb
      go_wp2_with fail
      refine Hc.out.mono ?_
      rintro e w2 ⟨rfl, hS2, hE2⟩
      go_wp2
      go_end0
      exact ⟨rfl, hS2, (Ex.of_below hB).trans hE2⟩
/-- a generator by sums: V and C in block B -/
structure SG where
  v : List Int
  c : List Int
structure SG.ok (g : SG) : Prop where
  vl : g.v.length = 55
  cl : g.c.length = 55
  vb : allB g.v
  cb : allB g.c
def SgAt (w : World) (B : Nat) (g : SG) : Prop := ∃ t, w.heap[B]? = some (.cells (g.v.map (Value.int .u8) ++ g.c.map (Value.int .u8)).toArray t (0, 0))
theorem SgAt.v {w : World} {B : Nat} {g : SG} (h : SgAt w B g) : NumAt w B [] (g.c.map (Value.int .u8)) g.v := by
  obtain ⟨t, h⟩ := h
  exact ⟨t, by rw [h]; rfl⟩
theorem SgAt.c {w : World} {B : Nat} {g : SG} (h : SgAt w B g) : NumAt w B (g.v.map (Value.int .u8)) [] g.c := by
  obtain ⟨t, h⟩ := h
  exact ⟨t, by rw [h]; simp⟩
theorem SgAt.of_v {w : World} {B : Nat} {v c : List Int} (h : NumAt w B [] (c.map (Value.int .u8)) v) : SgAt w B ⟨v, c⟩ := by
  obtain ⟨t, h⟩ := h
  exact ⟨t, by rw [h]; rfl⟩
theorem SgAt.of_c {w : World} {B : Nat} {v c : List Int} (h : NumAt w B (v.map (Value.int .u8)) [] c) : SgAt w B ⟨v, c⟩ := by
  obtain ⟨t, h⟩ := h
  exact ⟨t, by rw [h]; simp⟩
theorem SgAt.lt {w : World} {B : Nat} {g : SG} (h : SgAt w B g) : B < w.heap.size := h.v.lt
theorem SgAt.other {w w' : World} {B : Nat} {g : SG} (h : SgAt w B g) (he : w'.heap[B]? = w.heap[B]?) : SgAt w' B g := by
  obtain ⟨t, h⟩ := h
  exact ⟨t, he.trans h⟩
theorem SgAt.vSrc {w : World} {B : Nat} {g : SG} (h : SgAt w B g) (hg : g.ok) : Src w (.slice (some ⟨B, 0, none⟩) 55 55) g.v :=
  Or.inr ⟨_, 55, by rw [hg.vl], fun j u hu => by
    have hj : j < g.v.length := by simpa using (List.getElem?_eq_some_iff.1 hu).1
    have := h.v.mid j hj
    rw [Addr.add_mid]
    rw [List.length_nil] at this
    rw [this, ← hu]
    simp [List.getElem?_eq_getElem hj]⟩
theorem NumAt.there {w : World} {B : Nat} {pre post : List Value} {V : List Int} (h : NumAt w B pre post V) (hV : V.length = 55) : w.there B pre.length 55 := fun j hj => by
  refine ⟨?_, h.frozen _⟩
  rw [h.mid j (by omega)]; rfl
theorem NumAt.setCells {w : World} {B : Nat} {pre post : List Value} {V : List Int} (h : NumAt w B pre post V) (ms : List Int) (hl : ms.length = V.length) : NumAt (w.setCells B pre.length (ints .u8 ms).toList) B pre post ms := by
  obtain ⟨t, h⟩ := h
  refine ⟨t, ?_⟩
  have := setCells_block B t (ms.map (Value.int .u8)) (V.map (Value.int .u8)) pre post w (by simp [hl]) h
  simpa [ints] using this
theorem Tryz.alloc159 (w : World) : Sem.run Tryz.prog (Instr.alloc 159 true (Value.tuple #[])) w = .ok (.pointer (some ⟨w.heap.size, 0, none⟩)) (w.alloc (.cells (ints .u8 (zeros 55)) 159)) := by kernel_rfl
theorem Tryz.info159 : (Tryz.prog.info? 159).map (·.size) = some 55 := by kernel_rfl
end Go.Proofs.YtbifmhbkmnofiaaGreat
namespace Go.Proofs.YtbifmhbkmnofiaaGreat
open Go.RowKit
set_option linter.unusedVariables false
set_option linter.unusedSimpArgs false
theorem src_new (w : World) (bs : List Int) (cap : Nat) : Src (w.alloc (.cells (bs.map (Value.int .u8)).toArray 5)) (.slice (some ⟨w.heap.size, 0, none⟩) bs.length cap) bs :=
  Or.inr ⟨_, cap, rfl, fun j u hu => by
    rw [Addr.add_mid, cell_of_row _ _ _ _ _ _ (al_new w (.cells (bs.map (Value.int .u8)).toArray 5))]; simpa using hu⟩
theorem slv_heap {w : World} {B cap : Nat} {vs : List Value} {t : TypeId} {fr : Nat × Nat} (h : w.heap[B]? = some (.cells vs.toArray t fr)) : SlV w (.slice (some ⟨B, 0, none⟩) vs.length cap) vs :=
  ⟨_, cap, rfl, fun _ => ⟨B, 0, rfl, fun j u hu => by rw [cell_of_row _ _ _ _ _ _ h]; simpa using hu⟩⟩
/-- the slices that are joined lie in a new row -/
theorem concat_new (ps : List (Value × List Int)) (w : World) (n cap : Nat) (cs : Array Value) (xs : List Int) (hn : ps.length = n) (hcs : cs = (ps.map (·.1)).toArray) (hs : ∀ p ∈ ps, Src w p.1 p.2) (hx : sizes ps ps.length = xs) (hl : n ≤ 1000) (hxl : xs.length ≤ 1000000) :
    Calls Tryz.prog 113 #[.slice (some ⟨w.heap.size, 0, none⟩) n cap] (w.alloc (.cells cs 41)) fun e w' => ∃ r, e = .returned r ∧ Src w' r xs ∧ Below w.heap.size w w' := by
  subst hcs
  have hB : Below w.heap.size w (w.alloc (.cells (ps.map (·.1)).toArray 41)) := (Below.refl _ _).alloc (Nat.le_refl _) _
  have hv : SlV (w.alloc (.cells (ps.map (·.1)).toArray 41)) (.slice (some ⟨w.heap.size, 0, none⟩) n cap) (ps.map (·.1)) := by
    have := slv_heap (cap := cap) (al_new w (.cells (ps.map (·.1)).toArray 41))
    rw [List.length_map, hn] at this
    exact this
  refine (concat_any _ ps _ hv (fun p hp => (hs p hp).mono hB) (by omega) (by rw [hx]; exact hxl)).mono ?_
  rintro e w' ⟨r, rfl, hown, hB2⟩
  exact ⟨r, rfl, by rw [← hx]; exact hown.src, hB.trans (hB2.mono (by simp))⟩
def strF (xs : List Int) (k : Nat) : List Int := shaI (((k : Int) + 1) :: 0 :: 0 :: 1 :: 184 :: xs)
theorem strF_len (xs : List Int) (k : Nat) : (strF xs k).length = 32 := by unfold strF; exact shaI_len _
/-- some bytes stretched to 55 -/
def stretchI (xs : List Int) : List Int := part (strF xs) 55 2
theorem stretchI_len (xs : List Int) : (stretchI xs).length = 55 := part_len _ (strF_len xs) 55 2
theorem byt_src_sub (k : Nat) (h : k ≤ 1) : (55 : Nat) - 32 * k = Nat.max (55 - 32 * k) 1 := by
  have : k = 0 ∨ k = 1 := by omega
  rcases this with rfl | rfl <;> rfl
set_option maxRecDepth 20000 in
set_option maxHeartbeats 1000000 in
theorem stretch_any (v : Value) (xs : List Int) (w : World) (hv : Src w v xs) (hx : xs.length ≤ 1000) :
    Calls Tryz.prog 123 #[v] w fun e w' => e = .returned (.agg (ints .u8 (stretchI xs))) ∧ Below w.heap.size w w' := by
  obtain ⟨ao, cp, hve⟩ := hv.form
  rw [hve] at hv
  rw [hve]
  clear hve
  have HV := hid hv
  clear hv
  have Hst := hid (show stretchI xs = part (strF xs) 55 2 from rfl)
  have hr1 := al2_1 w (.cells (ints .u8 (zeros 55)) 159) (.cells (ints .u8 (zeros 55)) 159)
  have ho1 := al2_2 w (.cells (ints .u8 (zeros 55)) 159) (.cells (ints .u8 (zeros 55)) 159)
  have hB1 : Below w.heap.size w ((w.alloc (.cells (ints .u8 (zeros 55)) 159)).alloc (.cells (ints .u8 (zeros 55)) 159)) := ((Below.refl _ _).alloc (Nat.le_refl _) _).alloc (by simp) _
  go_enter Tryz.func123, Tryz.ntmps123
  go_wp2_with (refine wpList_alloc_eq rfl 159 rfl (ints .u8 (zeros 55)) Tryz.alloc159 ?_)
  generalize ((w.alloc (.cells (ints .u8 (zeros 55)) 159)).alloc (.cells (ints .u8 (zeros 55)) 159)) = w1 at *
  go_loopw [4, 5] (fun a p wr => ∃ k : Nat, k ≤ 2 ∧ a = .int .i64 ((Nat.min (32 * k) 55 : Nat) : Int) ∧ p = .int .u8 ((k : Int) + 1) ∧ wr.heap[w.heap.size + 1]? = some (.cells (ints .u8 (part (strF xs) 55 k)) 159 (0, 0)) ∧ wr.heap[w.heap.size]? = some (.cells (ints .u8 (zeros 55)) 159 (0, 0)) ∧ Below w.heap.size w wr) (fun _ p _ => 10 - (intOf p).toNat)
  case atStart => exact ⟨0, by omega, rfl, rfl, by rw [part_zero]; exact ho1, hr1, hB1⟩
  case round =>
    clear ho1 hr1 hB1
    obtain ⟨k, hk, rfl, rfl, ho, hr, hB⟩ := hrel
    by_cases hk2 : k < 2
    · have hmin : Nat.min (32 * k) 55 = 32 * k := Nat.min_eq_left (by omega)
      rw [hmin]
      have hps := hid (part_step (strF xs) (strF_len xs) 55 k (by omega))
      have hpl := hid (part_len (strF xs) (strF_len xs) 55 k)
      have hsl := strF_len xs k
      have Hsf := hid (show strF xs k = shaI (((k : Int) + 1) :: 0 :: 0 :: 1 :: 184 :: xs) from rfl)
      have hlt' : ((32 * k : Nat) : Int) < 55 := by omega
      have hlo := (Array.getElem?_eq_some_iff.1 ho).1
      generalize strF xs k = sk at *
      generalize hP0 : part (strF xs) 55 k = P0 at *
      generalize hP1 : part (strF xs) 55 (k + 1) = P1 at *
      have HP1 := hid hP1
      have HO := hid ho
      have HR := hid hr
      clear hP0 hP1 ho hr hmin
      have hB2 : Below wr.heap.size wr (wr.alloc (.cells #[Value.int .u8 ((k : Int) + 1), Value.int .u8 0, Value.int .u8 0, Value.int .u8 1, Value.int .u8 184] 5)) := (Below.refl _ _).alloc (Nat.le_refl _) _
      have hz2 := al_size wr (.cells #[Value.int .u8 ((k : Int) + 1), Value.int .u8 0, Value.int .u8 0, Value.int .u8 1, Value.int .u8 184] 5)
      have s1 := hid (src_new wr [(k : Int) + 1, 0, 0, 1, 184] 5)
      have s2 := hid (HV.out.mono hB)
      simp only [List.map_cons, List.map_nil] at s1
      go_wp2_with fail
      generalize (wr.alloc (.cells #[Value.int .u8 ((k : Int) + 1), Value.int .u8 0, Value.int .u8 0, Value.int .u8 1, Value.int .u8 184] 5)) = w2 at *
      rw [← hz2]
      refine (concat_new [(.slice (some ⟨wr.heap.size, 0, none⟩) 5 5, [(k : Int) + 1, 0, 0, 1, 184]), (.slice ao xs.length cp, xs)] w2 2 2 _ (((k : Int) + 1) :: 0 :: 0 :: 1 :: 184 :: xs) rfl rfl ?_ (by simp [sizes]) (by omega) (by simp; omega)).mono ?_
      · intro p hp
        simp only [List.mem_cons, List.not_mem_nil, or_false] at hp
        rcases hp with rfl | rfl
        · exact s1.out
        · exact s2.out.mono hB2
      rintro e w3 ⟨r, rfl, hsr, hB3⟩
      have hC3 := hB2.trans (hB3.mono (by omega))
      clear hB2 hB3 s1 s2 hz2
      go_wp2_with fail
      refine (DSum_any _ _ _ hsr.byt (by simp; omega)).mono ?_
      rintro e w4 ⟨rfl, hB4⟩
      rw [← Hsf.out]
      have hC4 := hC3.trans (hB4.mono hC3.size)
      clear hC3 hB4 hsr Hsf
      have HO4 := hid ((hC4.block _ hlo).trans HO.out)
      have HR4 := hid ((hC4.block w.heap.size (by omega)).trans HR.out)
      have hz4 := hC4.size
      have hC5 := hB.trans (hC4.mono hB.size)
      clear HO HR hC4 hB
      have hi5 : ((w4.alloc (.cells (ints .u8 Z32) 96)).setRow w4.heap.size (ints .u8 sk)).heap[w4.heap.size]? = some (.cells (ints .u8 sk) 96 (0, 0)) := setRow_heap _ _ _ _ _ _ (al_new _ _)
      have ho5 : ((w4.alloc (.cells (ints .u8 Z32) 96)).setRow w4.heap.size (ints .u8 sk)).heap[w.heap.size + 1]? = some (.cells (ints .u8 P0) 159 (0, 0)) := (heap_setRow _ _ _ _ (by omega)).trans (al_old _ _ _ _ HO4.out)
      have hr5 : ((w4.alloc (.cells (ints .u8 Z32) 96)).setRow w4.heap.size (ints .u8 sk)).heap[w.heap.size]? = some (.cells (ints .u8 (zeros 55)) 159 (0, 0)) := (heap_setRow _ _ _ _ (by omega)).trans (al_old _ _ _ _ HR4.out)
      have hB5 : Below w.heap.size w ((w4.alloc (.cells (ints .u8 Z32) 96)).setRow w4.heap.size (ints .u8 sk)) := below_setRow (hC5.alloc (by omega) _) _ (by omega) _
      clear HO4 HR4 hC5
      go_wp2_with (first
        | refine wpList_alloc_eq rfl 96 rfl (ints .u8 Z32) Tryz.alloc96 ?_
        | refine wpList_store_row rfl 96 _ _ rfl w4.heap.size (ints .u8 sk) rfl rfl 96 (ints .u8 Z32) (al_new _ _) (by rw [ints_size, hsl]; exact Tryz.info96) (by rw [ints_size, ints_size, hsl]; rfl) (ints_one _ _) ?_)
      generalize ((w4.alloc (.cells (ints .u8 Z32) 96)).setRow w4.heap.size (ints .u8 sk)) = w5 at *
      generalize w4.heap.size = sb at *
      generalize hcs : (sk.take (55 - 32 * k)).map (Value.int .u8) = cs at *
      have hps2 := hid (hps.out cs rfl)
      have hcl : cs.length = Nat.min 32 (55 - 32 * k) := by rw [← hcs, List.length_map, List.length_take, hsl]; exact Nat.min_comm _ _
      have hcl2 : Hd (32 * k + cs.length = Nat.min (32 * (k + 1)) 55) := hid (by
        rw [hcl]
        have : k = 0 ∨ k = 1 := by omega
        rcases this with rfl | rfl <;> rfl)
      have hcl3 : cs.length ≤ 32 := by rw [hcl]; exact Nat.min_le_left _ _
      have Hfit : Hd (32 * k + cs.length ≤ (P0.map (Value.int .u8)).length) := hid (by rw [hcl, List.length_map, hpl.out]; have : Nat.min 32 (55 - 32 * k) ≤ 55 - 32 * k := Nat.min_le_right 32 (55 - 32 * k); omega)
      have Hone : Hd (∀ v ∈ cs, v.oneCell' = true) := hid (by rw [← hcs]; exact one_ints _ _)
      have Hcl := hid hcl
      have Ho5 := hid ho5
      have Hr5 := hid hr5
      have HB5 := hid hB5
      have Hi5 := hid hi5
      have Hcs := hid hcs
      clear hcs hps hcl hpl ho5 hr5 hB5 hi5
      have q1 : (0 : Int) ≤ 32 * (k : Int) := by omega
      have q2 : 32 * (k : Int) ≤ 55 := by omega
      have q3 : (32 * (k : Int)).toNat = 32 * k := by omega
      have q4 : ¬ 55 = 32 * k := by omega
      have Hpos : Hd (0 < cs.length → some (⟨w.heap.size + 1, 32 * k, none⟩ : Addr) = some ⟨w.heap.size + 1, 32 * k, none⟩ ∧ ∃ ad, some (⟨sb, 0, none⟩ : Addr) = some ad ∧ ∀ j u, cs[j]? = some u → w5.drew.cell? (ad.add j) = some u) :=
        hid fun _ => ⟨rfl, _, rfl, fun j u hu => by
          rw [← Hcs.out] at hu
          have hj := (List.getElem?_eq_some_iff.1 hu).1
          rw [List.length_map, List.length_take] at hj
          rw [Addr.add_mid, Nat.zero_add, World.cell?_drew, (cells_of _ _ _ _ _ Hi5.out).1 j (by omega), ← hu, List.getElem?_map, List.getElem?_take, if_pos (by omega)]
          simp [List.getElem?_eq_getElem (show j < sk.length by omega)]⟩
      clear Hcs Hi5
      go_region_law ((refine step_copy_splice rfl (.tmp 19) (.tmp 20) 41 41 rfl 5 Tryz.underlying41 Tryz.info5 (some ⟨w.heap.size + 1, 32 * k, none⟩) (some ⟨sb, 0, none⟩) (55 - 32 * k) (55 - 32 * k) 32 32 (by simp [Act.eval, Act.put]) (by simp [Act.eval, Act.put]) (w.heap.size + 1) (32 * k) _ 159 Ho5.out cs Hcl.out Hpos.out Hfit.out Hone.out (w.heap.size + 1) _ (Below.refl _ _) (by omega) ?_; intro w6 hg6 hb6))
      rw [hps2.out] at hg6
      have hg7 := hid (show w6.heap[w.heap.size + 1]? = some (.cells (ints .u8 P1) 159 (0, 0)) from hg6)
      have hr7 := hid ((hb6.block w.heap.size (by omega)).trans Hr5.out)
      have hB7 := hid (HB5.out.drew.trans (hb6.mono (by omega)))
      clear hg6 hb6 Ho5 Hr5 HB5 Hpos
      go_wp2
      refine ⟨⟨k + 1, by omega, ?_, ?_, ?_, hr7.out, hB7.out⟩, ?_⟩
      · rw [← hcl2.out]; go_num
      · go_num
      · rw [HP1.out]; exact hg7.out
      · simp [intOf]; omega
    · obtain rfl : k = 2 := by omega
      rw [← Hst.out] at ho
      have hsl := stretchI_len xs
      generalize hss : stretchI xs = ss at *
      have Hss := hid hss
      clear hss
      have HO := hid ho
      have HR := hid hr
      have HB := hid hB
      clear ho hr hB
      go_wp2_with (first
        | refine wpList_load_row rfl 159 _ rfl (w.heap.size + 1) rfl 159 (ints .u8 ss) (0,0) _ HO.out Tryz.underlying159 rfl (by rw [ints_size, hsl]; exact Tryz.info159) ?_
        | refine wpList_store_row rfl 159 _ _ rfl w.heap.size (ints .u8 ss) rfl rfl 159 (ints .u8 (zeros 55)) HR.out (by rw [ints_size, hsl]; exact Tryz.info159) (by rw [ints_size, ints_size, hsl]; rfl) (ints_one _ _) ?_)
      exact bodyPost_ret (results_cell_row (fn := Tryz.f123) Tryz.results123 _ _ w.heap.size 159 (ints .u8 ss) (0,0) _ rfl (setRow_heap _ _ _ _ _ _ HR.out) Tryz.underlying159 rfl (by rw [ints_size, hsl]; exact Tryz.info159)) rfl ⟨by rw [Hss.out], below_setRow HB.out _ (Nat.le_refl _) _⟩
end Go.Proofs.YtbifmhbkmnofiaaGreat
namespace Go.Proofs.YtbifmhbkmnofiaaGreat
open Go.RowKit
set_option linter.unusedVariables false
set_option linter.unusedSimpArgs false
/-- a number in so many bytes -/
def btI (n : Int) (many : Nat) : List Int := (List.range many).map fun j => n / 256 ^ (many - 1 - j) % 256
theorem btI_len (n : Int) (many : Nat) : (btI n many).length = many := by simp [btI]
theorem btI_B (n : Int) (many : Nat) : allB (btI n many) := by
  intro x hx
  simp only [btI, List.mem_map, List.mem_range] at hx
  obtain ⟨j, _, rfl⟩ := hx
  omega
def stB (n : Int) (many k : Nat) : List Int := zeros (many - k) ++ (btI n many).drop (many - k)
theorem stB_len (n : Int) (many k : Nat) (h : k ≤ many) : (stB n many k).length = many := by simp [stB, zeros, btI_len]
theorem stB_step (n : Int) (many k : Nat) (h : k < many) : stB n many (k + 1) = (stB n many k).set (many - 1 - k) (n / 256 ^ k % 256) := by
  unfold stB
  rw [List.set_append_left _ _ (by rw [zeros_len]; omega)]
  have e1 : zeros (many - k) = zeros (many - (k + 1)) ++ [0] := by rw [← zeros_succ]; congr 1; omega
  rw [e1, List.set_append_right _ _ (by rw [zeros_len]; omega), zeros_len, show many - 1 - k - (many - (k + 1)) = 0 by omega]
  have hlt : many - (k + 1) < (btI n many).length := by rw [btI_len]; omega
  rw [List.drop_eq_getElem_cons hlt]
  have e2 : (btI n many)[many - (k + 1)] = n / 256 ^ k % 256 := by
    simp only [btI, List.getElem_map, List.getElem_range]
    rw [show many - 1 - (many - (k + 1)) = k by omega]
  rw [e2, show many - (k + 1) + 1 = many - k by omega]
  simp
theorem div_step (n : Int) (k : Nat) : n / 256 ^ k / 256 = n / 256 ^ (k + 1) := by
  rw [Int.pow_succ, Int.ediv_ediv_of_nonneg (Int.pow_nonneg (by decide))]
set_option maxRecDepth 20000 in
set_option maxHeartbeats 400000 in
theorem bytes_any (n : Int) (many : Nat) (w : World) (hn : 0 ≤ n) (hn2 : n ≤ 9223372036854775807) (hm : many ≤ 100) :
    Calls Tryz.prog 55 #[.int .i64 n, .int .i64 many] w fun e w' => e = .returned (.string (toS (btI n many))) ∧ Below w.heap.size w w' := by
  go_enter Tryz.func55, Tryz.ntmps55
  go_wp2_with (refine wpList_makeB rfl _ _ rfl many (by omega) rfl rfl ?_)
  have hD : (w.alloc (.cells (ints .u8 (zeros many)) 5)).heap[w.heap.size]? = some (.cells (ints .u8 (stB n many 0)) 5 (0, 0)) := by
    have e : stB n many 0 = zeros many := by simp [stB, List.drop_of_length_le (Nat.le_of_eq (btI_len n many))]
    rw [e]; exact al_new _ _
  have hB : Below w.heap.size w (w.alloc (.cells (ints .u8 (zeros many)) 5)) := (Below.refl _ _).alloc (Nat.le_refl _) _
  generalize (w.alloc (.cells (ints .u8 (zeros many)) 5)) = w1 at *
  go_loopw [0, 6] (fun m i wr => ∃ k : Nat, k ≤ many ∧ i = .int .i64 ((many : Int) - 1 - k) ∧ m = .int .i64 (n / 256 ^ k) ∧ wr.heap[w.heap.size]? = some (.cells (ints .u8 (stB n many k)) 5 (0, 0)) ∧ Below w.heap.size w wr) (fun _ i _ => ((intOf i) + 1).toNat)
  case atStart => exact ⟨0, by omega, by go_num, by simp, hD, hB⟩
  case round =>
    clear hD hB
    obtain ⟨k, hk, rfl, rfl, hD, hB⟩ := hrel
    have q0 : 0 ≤ n / 256 ^ k := Int.ediv_nonneg hn (Int.pow_nonneg (by decide))
    have q1 : n / 256 ^ k ≤ 9223372036854775807 := Int.le_trans (Int.ediv_le_self _ hn) hn2
    by_cases hlt : k < many
    · have hst := hid (stB_step n many k hlt)
      have hds := hid (div_step n k)
      have hl := stB_len n many k hk
      have c0 := (cells_of _ _ _ _ _ hD).1 (many - 1 - k) (by omega)
      have f0 := (cells_of _ _ _ _ _ hD).2 (many - 1 - k)
      have j0 : ((many : Int) - 1 - k).toNat = many - 1 - k := by omega
      have i0 : (0 : Int) ≤ (many : Int) - 1 - k := by omega
      have i1 : (many : Int) - 1 - k < many := by omega
      have HD := hid hD
      clear hD
      generalize stB n many k = l at *
      generalize n / 256 ^ k = q at *
      go_wp2
      refine ⟨⟨k + 1, by omega, by go_num, ?_, ?_, hB.setCell (by simp) _⟩, by simp [intOf]; omega⟩
      · rw [← hds.out]
      · rw [hst.out]; exact setCell_ints _ _ _ _ _ _ _ HD.out
    · obtain rfl : k = many := by omega
      have e : stB n k k = btI n k := by simp [stB, zeros]
      rw [e] at hD
      have y1 : Byt wr (.slice (some ⟨w.heap.size, 0, none⟩) k k) (btI n k) := by have := byt_block hD k; rw [btI_len] at this; exact this
      have Y1 := hid y1
      clear y1 hD e
      generalize hbt : btI n k = bt at *
      have Hbt := hid hbt
      clear hbt
      go_wp2_with (refine wpList_str rfl _ rfl _ bt rfl Y1.out ?_)
      go_ret
      exact ⟨by rw [Hbt.out]; rfl, hB⟩
theorem bytes_int (n many : Int) (w : World) (hn : 0 ≤ n) (hn2 : n ≤ 9223372036854775807) (h0 : 0 ≤ many) (hm : many ≤ 100) :
    Calls Tryz.prog 55 #[.int .i64 n, .int .i64 many] w fun e w' => e = .returned (.string (toS (btI n many.toNat))) ∧ Below w.heap.size w w' := by
  obtain ⟨k, rfl⟩ := Int.eq_ofNat_of_zero_le h0
  rw [Int.toNat_natCast]
  exact bytes_any n k w hn hn2 (by omega)
end Go.Proofs.YtbifmhbkmnofiaaGreat
namespace Go.Proofs.YtbifmhbkmnofiaaGreat
open Go.RowKit
set_option maxRecDepth 20000 in
set_option maxHeartbeats 400000 in
theorem rfirst_any (w : World) : Calls Tryz.prog 56 #[] w fun e w' => e = .returned (.slice (some ⟨w.heap.size, 0, none⟩) 8 8) ∧ w' = w.alloc (.cells (ints .i64 HT) 3) := by
  go_enter Tryz.func56, Tryz.ntmps56
  go_wp2
  go_ret
  exact ⟨rfl, rfl⟩
set_option maxRecDepth 20000 in
set_option maxHeartbeats 400000 in
theorem rtable_any (w : World) : Calls Tryz.prog 83 #[] w fun e w' => e = .returned (.slice (some ⟨w.heap.size, 0, none⟩) 64 64) ∧ w' = w.alloc (.cells (ints .i64 KT) 3) := by
  go_enter Tryz.func83, Tryz.ntmps83
  go_wp2
  go_ret
  exact ⟨rfl, rfl⟩
end Go.Proofs.YtbifmhbkmnofiaaGreat
