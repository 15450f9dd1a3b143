import Derived.Test.YtbifmhbkmnofiaaGreatMj
namespace Go.Proofs.YtbifmhbkmnofiaaGreat
open Go.RowKit
set_option linter.unusedVariables false
set_option linter.unusedSimpArgs false
/-- 'copy' as a step of a region, the world behind it told whole -/
theorem step_copy_set {ops : Array Oper} {o : Oper} {a : Act} {w : World} {K : Act → World → Prop} {Q : Exit → Act → World → Prop} {E : Prop} (hgd : o.guard = none) (d s : Operand)
    (ho : o.op = .call { callee := .builtin .copy, args := #[d, s], argTypes := #[41, 41] })
    (g off dLen dCap sLen sCap : Nat) (ad : Addr) (hd : a.eval d = .slice (some ⟨g, off, none⟩) dLen dCap) (hs : a.eval s = .slice (some ad) sLen sCap)
    (cur : List Value) (t : TypeId) (hg : w.heap[g]? = some (.cells cur.toArray t (0, 0))) (cs : List Value) (hn : cs.length = Nat.min sLen dLen)
    (hsrc : ∀ j v, cs[j]? = some v → w.cell? (ad.add j) = some v) (hfit : off + cs.length ≤ cur.length) (h1 : ∀ v ∈ cs, v.oneCell' = true)
    (h : K (a.put o.dst (goInt cs.length)) (w.setRow g (splice cur off cs).toArray)) :
    if Region.wanted o (yielded ops a.tmps) = true then Oper.wp Tryz.prog o a w K Q else E := by
  have hw : Region.wanted o (yielded ops a.tmps) = true := by simp [Region.wanted, hgd]
  rw [if_pos hw]
  have hrun := run_copy_row (P := Tryz.prog) w 41 41 o.type 5 g off dLen dCap ad sLen sCap cur.toArray t cs Tryz.underlying41 Tryz.info5 hg hn hsrc (by simpa using hfit) h1
  unfold Oper.wp
  simp [execOp, ho, resolve, invoke, builtin, hd, hs, hrun, Result.andThen]
  exact h
def cntN (V : List Int) : Nat → List Int
  | 0 => V
  | k + 1 => addI (cntN V k) (be8 1)
theorem cntN_len {V : List Int} (h : V.length = 55) : ∀ k, (cntN V k).length = 55
  | 0 => h
  | k + 1 => by rw [cntN]; exact addI_len _ _
theorem cntN_B {V : List Int} (h : allB V) : ∀ k, allB (cntN V k)
  | 0 => h
  | k + 1 => by rw [cntN]; exact addI_B _ _
def sumF (V : List Int) (k : Nat) : List Int := shaI (cntN V k)
theorem sumF_len (V : List Int) (k : Nat) : (sumF V k).length = 32 := by unfold sumF; exact shaI_len _
def drawS (V : List Int) (n : Nat) : List Int := (rows32 (sumF V) (blk n)).take n
theorem drawS_len (V : List Int) (n : Nat) : (drawS V n).length = n := by
  unfold drawS
  rw [List.length_take, rows32_len _ (sumF_len V)]
  unfold blk; omega
theorem drawS_few (V : List Int) (n m : Nat) (hnm : n ≤ m) : drawS V n = (drawS V m).take n := by
  unfold drawS
  rw [List.take_take, Nat.min_eq_left hnm]
  have hb : blk n ≤ blk m := by unfold blk; omega
  obtain ⟨d, hd⟩ := Nat.exists_eq_add_of_le hb
  obtain ⟨ys, hy⟩ := rows32_add (sumF V) (blk n) d
  rw [hd, hy, List.take_append_of_le_length]
  rw [rows32_len _ (sumF_len V)]; unfold blk; omega
theorem NumAt.byt {w : World} {B : Nat} {V : List Int} (h : NumAt w B [] [] V) (hV : V.length = 55) : Byt w (.slice (some ⟨B, 0, none⟩) 55 55) V :=
  Or.inr ⟨B, 0, 55, by rw [hV], fun j hj => by have := h.mid j hj; rwa [List.length_nil] at this⟩
theorem NumAt.range {w : World} {B : Nat} {post : List Value} {V : List Int} (h : NumAt w B [] post V) : w.rangeAt B 0 (V.map (Value.int .u8)) := fun j v hv => by
  have hj : j < (V.map (Value.int .u8)).length := (List.getElem?_eq_some_iff.1 hv).1
  rw [Nat.zero_add, h.cell, List.nil_append, List.getElem?_append_left hj, hv]
theorem NumAt.of_ints {w : World} {B : Nat} {V : List Int} {t : TypeId} (h : w.heap[B]? = some (.cells (ints .u8 V) t (0, 0))) : NumAt w B [] [] V :=
  ⟨t, by rw [h]; simp [ints]⟩
set_option maxRecDepth 20000 in
set_option maxHeartbeats 1000000 in
theorem draw_any (g : SG) (n B : Nat) (w : World) (hg : g.ok) (hS : SgAt w B g) (hn : n ≤ 100000) :
    Calls Tryz.prog 120 #[.pointer (some ⟨B, 0, none⟩), .int .i64 n] w fun e w' => ∃ gb, e = .returned (.slice (some ⟨gb, 0, none⟩) n n) ∧ w.heap.size ≤ gb ∧ w'.heap[gb]? = some (.cells (ints .u8 (drawS g.v n)) 5 (0, 0)) ∧ Below w.heap.size w w' := by
  have hlt := hS.lt
  have hB1 : Below w.heap.size w (w.alloc (.cells (ints .u8 (zeros n)) 5)) := (Below.refl _ _).alloc (Nat.le_refl _) _
  have hz1 := al_size w (.cells (ints .u8 (zeros n)) 5)
  have hr1 := al_new w (.cells (ints .u8 (zeros n)) 5)
  have hS1 := hS.other (hB1.block B hlt)
  have Hrg := hid hS1.v.range
  have Hi : Hd ((Tryz.prog.info? 159).map (·.size) = some (g.v.map (Value.int .u8)).length) := hid (by rw [List.length_map, hg.vl]; exact Tryz.info159)
  have Hr := hid (show drawS g.v n = (rows32 (sumF g.v) (blk n)).take n from rfl)
  have hvl := hg.vl
  have hvb := hg.vb
  clear hS hS1
  generalize g.v = V at *
  have hB2 : Below w.heap.size w (((w.alloc (.cells (ints .u8 (zeros n)) 5)).alloc (.cells (ints .u8 (zeros 55)) 159)).setRow (w.alloc (.cells (ints .u8 (zeros n)) 5)).heap.size (ints .u8 V)) := below_setRow (hB1.alloc hB1.size _) _ hB1.size _
  have hr2 : (((w.alloc (.cells (ints .u8 (zeros n)) 5)).alloc (.cells (ints .u8 (zeros 55)) 159)).setRow (w.alloc (.cells (ints .u8 (zeros n)) 5)).heap.size (ints .u8 V)).heap[w.heap.size]? = some (.cells (ints .u8 (zeros n)) 5 (0, 0)) := (heap_setRow _ _ _ _ (by omega)).trans (al_old _ _ _ _ hr1)
  have hc2 : (((w.alloc (.cells (ints .u8 (zeros n)) 5)).alloc (.cells (ints .u8 (zeros 55)) 159)).setRow (w.alloc (.cells (ints .u8 (zeros n)) 5)).heap.size (ints .u8 V)).heap[(w.alloc (.cells (ints .u8 (zeros n)) 5)).heap.size]? = some (.cells (ints .u8 V) 159 (0, 0)) := setRow_heap _ _ _ _ _ _ (al_new _ _)
  rw [hz1] at hB2 hr2 hc2
  have Hnew := hid (show ((w.alloc (.cells (ints .u8 (zeros n)) 5)).alloc (.cells (ints .u8 (zeros 55)) 159)).heap[w.heap.size + 1]? = some (.cells (ints .u8 (zeros 55)) 159 (0, 0)) from al2_2 _ _ _)
  have Hcast : Hd (Value.agg (V.map (Value.int .u8)).toArray = Value.agg (ints .u8 V)) := hid rfl
  have HB2 := hid hB2
  have Hr2 := hid hr2
  have Hc2 := hid hc2
  clear hB1 hr1 hz1 hB2 hr2 hc2
  go_enter Tryz.func120, Tryz.ntmps120
  go_wp2_with (first
    | refine wpList_makeB rfl _ _ rfl n (by omega) rfl rfl ?_
    | (refine wpList_load_mid rfl 159 _ rfl B 0 rfl (V.map (Value.int .u8)) _ Hrg.out Tryz.underlying159 rfl Hi.out ?_; rw [Hcast.out])
    | refine wpList_alloc_eq rfl 159 rfl (ints .u8 (zeros 55)) Tryz.alloc159 ?_
    | refine wpList_store_row rfl 159 _ _ rfl (w.alloc (.cells (ints .u8 (zeros n)) 5)).heap.size (ints .u8 V) rfl rfl 159 (ints .u8 (zeros 55)) (al_new _ _) (by rw [ints_size, hvl]; exact Tryz.info159) (by rw [ints_size, ints_size, hvl]; rfl) (ints_one _ _) ?_)
  have hN2 := hid (NumAt.of_ints Hc2.out)
  clear Hc2 Hnew Hrg Hi Hcast
  generalize (((w.alloc (.cells (ints .u8 (zeros n)) 5)).alloc (.cells (ints .u8 (zeros 55)) 159)).setRow (w.heap.size + 1) (ints .u8 V)) = w2 at *
  go_loopw [7] (fun i wr => ∃ k : Nat, k ≤ blk n ∧ i = .int .i64 ((32 * k : Nat) : Int) ∧ NumAt wr (w.heap.size + 1) [] [] (cntN V k) ∧ wr.heap[w.heap.size]? = some (.cells (ints .u8 (part (sumF V) n k)) 5 (0, 0)) ∧ Below w.heap.size w wr) (fun i _ => 32 * blk n - (intOf i).toNat)
  case atStart => exact ⟨0, by omega, rfl, hN2.out, by rw [part_zero]; exact Hr2.out, HB2.out⟩
  case round =>
    clear hN2 Hr2 HB2
    obtain ⟨k, hk, rfl, hN, hr, hB⟩ := hrel
    have hbn : blk n = (n + 31) / 32 := rfl
    by_cases hlt : 32 * k < n
    · have hkb : k < blk n := by omega
      have hps := hid (part_step (sumF V) (sumF_len V) n k hlt)
      have hpl := hid (part_len (sumF V) (sumF_len V) n k)
      have hsl := sumF_len V k
      have Hsf := hid (show sumF V k = shaI (cntN V k) from rfl)
      have hcn := hid (show cntN V (k + 1) = addI (cntN V k) (be8 1) from rfl)
      have hcl0 := cntN_len hvl k
      have hcb0 := cntN_B hvb k
      have hlt' : ((32 * k : Nat) : Int) < n := by omega
      generalize sumF V k = sk at *
      generalize cntN V k = cv at *
      generalize hP0 : part (sumF V) n k = P0 at *
      generalize hP1 : part (sumF V) n (k + 1) = P1 at *
      have HP1 := hid hP1
      have HN := hid hN
      have HR := hid hr
      have HB := hid hB
      have hlc := hN.lt
      clear hP0 hP1 hN hr hB
      go_wp2_with fail
      refine (DSum_any _ _ _ (HN.out.byt hcl0) (by rw [hcl0]; omega)).mono ?_
      rintro e w4 ⟨rfl, hB4⟩
      rw [← Hsf.out]
      have hN4 := hid (HN.out.other (hB4.block _ hlc))
      have hr4 := hid ((hB4.block w.heap.size (by omega)).trans HR.out)
      have hz4 := hB4.size
      have hC4 := hid (HB.out.trans (hB4.mono HB.out.size))
      clear HN HR HB hB4 Hsf
      have hi5 : ((w4.alloc (.cells (ints .u8 Z32) 96)).setRow w4.heap.size (ints .u8 sk)).heap[w4.heap.size]? = some (.cells (ints .u8 sk) 96 (0, 0)) := setRow_heap _ _ _ _ _ _ (al_new _ _)
      have hr5 : ((w4.alloc (.cells (ints .u8 Z32) 96)).setRow w4.heap.size (ints .u8 sk)).heap[w.heap.size]? = some (.cells (ints .u8 P0) 5 (0, 0)) := (heap_setRow _ _ _ _ (by omega)).trans (al_old _ _ _ _ hr4.out)
      have hN5 : NumAt ((w4.alloc (.cells (ints .u8 Z32) 96)).setRow w4.heap.size (ints .u8 sk)) (w.heap.size + 1) [] [] cv := hN4.out.other ((heap_setRow _ _ _ _ (by omega)).trans (Below.heap_alloc _ _ _ (by omega)))
      have hB5 : Below w.heap.size w ((w4.alloc (.cells (ints .u8 Z32) 96)).setRow w4.heap.size (ints .u8 sk)) := below_setRow (hC4.out.alloc (by omega) _) _ (by omega) _
      clear hr4 hN4 hC4
      go_wp2_with (first
        | refine wpList_alloc_eq rfl 96 rfl (ints .u8 Z32) Tryz.alloc96 ?_
        | refine wpList_store_row rfl 96 _ _ rfl w4.heap.size (ints .u8 sk) rfl rfl 96 (ints .u8 Z32) (al_new _ _) (by rw [ints_size, hsl]; exact Tryz.info96) (by rw [ints_size, ints_size, hsl]; rfl) (ints_one _ _) ?_)
      generalize ((w4.alloc (.cells (ints .u8 Z32) 96)).setRow w4.heap.size (ints .u8 sk)) = w5 at *
      generalize w4.heap.size = sb at *
      generalize hcs : (sk.take (n - 32 * k)).map (Value.int .u8) = cs at *
      have hps2 := hid (hps.out cs rfl)
      have hcl : cs.length = Nat.min 32 (n - 32 * k) := by rw [← hcs, List.length_map, List.length_take, hsl]; exact Nat.min_comm _ _
      have Hfit : Hd (32 * k + cs.length ≤ (P0.map (Value.int .u8)).length) := hid (by rw [hcl, List.length_map, hpl.out]; have : Nat.min 32 (n - 32 * k) ≤ n - 32 * k := Nat.min_le_right 32 (n - 32 * k); omega)
      have Hone : Hd (∀ v ∈ cs, v.oneCell' = true) := hid (by rw [← hcs]; exact one_ints _ _)
      have Hcl := hid hcl
      have Hr5 := hid hr5
      have HN5 := hid hN5
      have HB5 := hid hB5
      have Hsrc : Hd (∀ j u, cs[j]? = some u → w5.drew.cell? ((⟨sb, 0, none⟩ : Addr).add j) = some u) := hid fun j u hu => by
        rw [← hcs] at hu
        have hj := (List.getElem?_eq_some_iff.1 hu).1
        rw [List.length_map, List.length_take] at hj
        rw [Addr.add_mid, Nat.zero_add, World.cell?_drew, (cells_of _ _ _ _ _ hi5).1 j (by omega), ← hu, List.getElem?_map, List.getElem?_take, if_pos (by omega)]
        simp [List.getElem?_eq_getElem (show j < sk.length by omega)]
      clear hcs hps hcl hpl hr5 hN5 hB5 hi5
      have q1 : (0 : Int) ≤ 32 * (k : Int) := by omega
      have q2 : 32 * (k : Int) ≤ (n : Int) := by omega
      have q3 : (32 * (k : Int)).toNat = 32 * k := by omega
      have q4 : ¬ n = 32 * k := by omega
      go_region_law ((refine step_copy_set rfl (.tmp 24) (.tmp 25) rfl w.heap.size (32 * k) (n - 32 * k) (n - 32 * k) 32 32 ⟨sb, 0, none⟩ (by simp [Act.eval, Act.put]) (by simp [Act.eval, Act.put]) (P0.map (Value.int .u8)) 5 Hr5.out cs Hcl.out Hsrc.out Hfit.out Hone.out ?_))
      rw [hps2.out]
      have hr6 : (w5.drew.setRow w.heap.size (P1.map (Value.int .u8)).toArray).heap[w.heap.size]? = some (.cells (ints .u8 P1) 5 (0, 0)) := setRow_heap _ _ _ _ _ _ Hr5.out
      have hN6 : NumAt (w5.drew.setRow w.heap.size (P1.map (Value.int .u8)).toArray) (w.heap.size + 1) [] [] cv := HN5.out.other (heap_setRow _ _ _ _ (by omega))
      have hB6 : Below w.heap.size w (w5.drew.setRow w.heap.size (P1.map (Value.int .u8)).toArray) := below_setRow HB5.out.drew _ (Nat.le_refl _) _
      generalize (w5.drew.setRow w.heap.size (P1.map (Value.int .u8)).toArray) = w6 at *
      clear Hr5 HN5 HB5 Hsrc Hfit Hone Hcl hps2
      go_wp2_with fail
      refine (nsmall_any cv 1 (w.heap.size + 1) 0 [] [] _ hcl0 hcb0 rfl hN6 (by omega) (by omega)).mono ?_
      rintro e w7 ⟨rfl, hN7, hE7⟩
      rw [← hcn.out] at hN7
      have hlt6 : w.heap.size < w6.heap.size := (Array.getElem?_eq_some_iff.1 hr6).1
      have hr7 := hid ((hE7.block w.heap.size hlt6 (by omega)).trans hr6)
      have hB7 := hid (hB6.trans (hE7.below (by omega) (by omega)))
      have HN7 := hid hN7
      clear hr6 hB6 hN6 hE7 hN7 hcn
      go_wp2
      exact ⟨⟨k + 1, by omega, by go_num, HN7.out, by rw [HP1.out]; exact hr7.out, hB7.out⟩, by simp [intOf]; omega⟩
    · obtain rfl : k = blk n := by omega
      rw [part_end, ← Hr.out] at hr
      have HR := hid hr
      clear hr
      have hnl : ¬ ((32 * blk n : Nat) : Int) < n := by omega
      go_wp2
      go_ret
      exact ⟨w.heap.size, rfl, Nat.le_refl _, HR.out, hB⟩
end Go.Proofs.YtbifmhbkmnofiaaGreat
namespace Go.Proofs.YtbifmhbkmnofiaaGreat
open Go.RowKit
set_option linter.unusedVariables false
set_option linter.unusedSimpArgs false
/-- a number of another block is added to V -/
theorem sadd_new (g : SG) (o : List Int) (B sb n : Nat) (t : TypeId) (w : World) (hg : g.ok) (hS : SgAt w B g) (ho : w.heap[sb]? = some (.cells (ints .u8 o) t (0, 0))) (hsb : sb ≠ B) (hol : o.length = n) (hn : n ≤ 1000) (hoB : allB o) :
    Calls Tryz.prog 118 #[.pointer (some ⟨B, 0, none⟩), .slice (some ⟨sb, 0, none⟩) n n] w fun e w' => e = .returned (.tuple #[]) ∧ SgAt w' B ⟨addI g.v o, g.c⟩ ∧ Ex B w w' := by
  subst hol
  refine (nadd_any g.v o B sb 0 o.length 0 [] (g.c.map (Value.int .u8)) w hg.vl hg.vb hoB hn rfl hS.v ?_).mono ?_
  · intro wr X _ _ hE j hj
    have h1 := (hE.block sb (Array.getElem?_eq_some_iff.1 ho).1 hsb).trans ho
    rw [Nat.zero_add]
    exact (cells_of _ _ _ _ _ h1).1 j hj
  · rintro e w' ⟨rfl, h1, h2⟩
    exact ⟨rfl, SgAt.of_v h1, h2⟩
/-- C is added to V -/
theorem sadd_own (g : SG) (B : Nat) (w : World) (hg : g.ok) (hS : SgAt w B g) :
    Calls Tryz.prog 118 #[.pointer (some ⟨B, 0, none⟩), .slice (some ⟨B, 55, none⟩) 55 55] w fun e w' => e = .returned (.tuple #[]) ∧ SgAt w' B ⟨addI g.v g.c, g.c⟩ ∧ Ex B w w' := by
  have := nadd_any g.v g.c B B 55 55 0 [] (g.c.map (Value.int .u8)) w hg.vl hg.vb hg.cb (by rw [hg.cl]; omega) rfl hS.v (by
    intro wr X hX hXl _ j hj
    rw [hX.cell, List.nil_append, List.getElem?_append_right (by simp [hXl])]
    simp [hXl, List.getElem?_eq_getElem hj])
  rw [hg.cl] at this
  refine this.mono ?_
  rintro e w' ⟨rfl, h1, h2⟩
  exact ⟨rfl, SgAt.of_v h1, h2⟩
def extraS (g : SG) (xs : List Int) : SG := if xs = [] then g else ⟨addI g.v (markI 2 g.v xs), g.c⟩
theorem addS_ok {g : SG} (h : g.ok) (o : List Int) : (⟨addI g.v o, g.c⟩ : SG).ok := ⟨addI_len _ _, h.cl, addI_B _ _, h.cb⟩
theorem extraS_ok {g : SG} (h : g.ok) (xs : List Int) : (extraS g xs).ok := by
  unfold extraS
  split
  · exact h
  · exact addS_ok h _
def bytesS (g : SG) (n : Nat) (xs : List Int) : List Int := drawS (extraS g xs).v n
def behindS (g : SG) (xs : List Int) (r : Int) : SG := ⟨addI (addI (addI (extraS g xs).v (markI 3 (extraS g xs).v [])) (extraS g xs).c) (be8 r), (extraS g xs).c⟩
theorem behindS_eq (g : SG) (xs : List Int) (r : Int) : behindS g xs r = ⟨addI (addI (addI (extraS g xs).v (markI 3 (extraS g xs).v [])) (extraS g xs).c) (be8 r), (extraS g xs).c⟩ := by simp only [behindS]
theorem behindS_ok {g : SG} (h : g.ok) (xs : List Int) (r : Int) : (behindS g xs r).ok := by
  rw [behindS_eq]
  exact ⟨addI_len _ _, (extraS_ok h xs).cl, addI_B _ _, (extraS_ok h xs).cb⟩
theorem bytesS_len (g : SG) (n : Nat) (xs : List Int) : (bytesS g n xs).length = n := drawS_len _ _
theorem bytesS_few (g : SG) (n m : Nat) (xs : List Int) (hnm : n ≤ m) : bytesS g n xs = (bytesS g m xs).take n := drawS_few _ _ _ hnm
set_option maxRecDepth 20000 in
set_option maxHeartbeats 2000000 in
theorem sread_any (g : SG) (n : Nat) (r : Int) (v : Value) (xs : List Int) (B : Nat) (w : World) (hg : g.ok) (hS : SgAt w B g) (hv : Src w v xs) (hx : xs.length ≤ 1000) (hn : n ≤ 100000) (hr0 : 0 ≤ r) (hr1 : r ≤ 18446744073709551615) :
    Calls Tryz.prog 115 #[.pointer (some ⟨B, 0, none⟩), .int .i64 n, v, .int .u64 r] w fun e w' => ∃ gb, e = .returned (.slice (some ⟨gb, 0, none⟩) n n) ∧ w.heap.size ≤ gb ∧ w'.heap[gb]? = some (.cells (ints .u8 (bytesS g n xs)) 5 (0, 0)) ∧ SgAt w' B (behindS g xs r) ∧ Ex B w w' := by
  obtain ⟨ao, cp, hve⟩ := hv.form
  rw [hve] at hv
  rw [hve]
  clear hve
  have HV := hid hv
  have hlt := hS.lt
  have hg1 := extraS_ok hg xs
  have Hr := hid (show bytesS g n xs = drawS (extraS g xs).v n from rfl)
  have Hb := hid (behindS_eq g xs r)
  clear hv
  go_enter Tryz.func115, Tryz.ntmps115
  by_cases h0 : xs = []
  · subst h0
    have e1 : extraS g [] = g := by unfold extraS; rw [if_pos rfl]
    rw [← e1] at hS
    generalize extraS g [] = g1 at *
    have hE1 := Ex.refl B w
    have hS1 := hS
    clear hS e1
    have hlt1 := hS1.lt
    clear HV
    go_wp2_with fail
    refine (draw_any g1 n B _ hg1 hS1 hn).mono ?_
    rintro e w2 ⟨gb, rfl, hgb, hr2, hB2⟩
    rw [← Hr.out] at hr2
    have hS2 := hS1.other (hB2.block B hlt1)
    have hE2 := hE1.trans (Ex.of_below (B := B) hB2)
    have hz1 := hE1.size
    have hgl2 : gb < w2.heap.size := (Array.getElem?_eq_some_iff.1 hr2).1
    have HR2 := hid hr2
    have HS2 := hid hS2
    have HE2 := hid hE2
    clear hS1 hE1 hB2 hr2 hS2 hE2 Hr
    go_wp2_with fail
    refine wp_region_any (by kernel_rfl) ?_
    change wpAny _ _ _ _ _ _ _ (World.drew _)
    refine wpAny_take (i := 0) (v := ?_) rfl (by decide +kernel) (by decide +kernel) (by decide +kernel) (fun _ _ _ h => h) (Or.inl ⟨by rfl, ?_⟩) ?_
    rotate_left
    · intro w; go_simp; try with_reducible rfl
    simp only [Act.put, List.getElem_toArray, List.getElem_cons_zero, List.getElem_cons_succ, List.setIfInBounds_toArray, List.set_cons_zero, List.set_cons_succ]
    refine wpAny_take (i := 1) (v := ?_) rfl (by decide +kernel) (by decide +kernel) (by decide +kernel) (fun _ _ _ h => h) (Or.inl ⟨by rfl, ?_⟩) ?_
    rotate_left
    · intro w; go_simp; try with_reducible rfl
    simp only [Act.put, List.getElem_toArray, List.getElem_cons_zero, List.getElem_cons_succ, List.setIfInBounds_toArray, List.set_cons_zero, List.set_cons_succ]
    refine wpAny_take (i := 2) (v := ?_) rfl (by decide +kernel) (by decide +kernel) (by decide +kernel) (fun _ _ _ h => h) (Or.inl ⟨by rfl, ?_⟩) ?_
    rotate_left
    · intro w; go_simp; try with_reducible rfl
    simp only [Act.put, List.getElem_toArray, List.getElem_cons_zero, List.getElem_cons_succ, List.setIfInBounds_toArray, List.set_cons_zero, List.set_cons_succ]
    refine wpAny_take (i := 3) (v := ?_) rfl (by decide +kernel) (by decide +kernel) (by decide +kernel) (fun _ _ _ h => h) (Or.inl ⟨by rfl, ?_⟩) ?_
    rotate_left
    · intro w; go_simp; try with_reducible rfl
    simp only [Act.put, List.getElem_toArray, List.getElem_cons_zero, List.getElem_cons_succ, List.setIfInBounds_toArray, List.set_cons_zero, List.set_cons_succ]
    refine wpAny_ready (rs := [4]) (by kernel_rfl) (by simp) ?_
    refine AllReady.cons rfl (fun K hK => ?_) AllReady.nil
    go_simp
    refine (marked_any g1 3 _ [] B w2.drew hg1 (show SgAt w2.drew B g1 from HS2.out) (Src.nil _) (by simp)).mono ?_
    rintro e w3 ⟨sb, rfl, hsb, hm3, hB3⟩
    refine hK _ _ ?_
    clear hK K
    have hlt2 := HS2.out.lt
    have hS3 := HS2.out.other (hB3.block B hlt2)
    have HR3 := hid ((hB3.block gb hgl2).trans HR2.out)
    have hgl3 : gb < w3.heap.size := (Array.getElem?_eq_some_iff.1 HR3.out).1
    have HE3 := hid (HE2.out.drew.trans (Ex.of_below (B := B) hB3))
    have hml := markI_len 3 g1.v []
    have hmb := hid (markI_B 3 g1.v [])
    generalize markI 3 g1.v [] = mk at *
    have hsbB : sb ≠ B := by have : w2.heap.size ≤ sb := hsb; omega
    clear hsb HR2 HE2 HS2 hB3
    refine wpAny_ready (rs := [5]) (by kernel_rfl) (by simp) ?_
    refine AllReady.cons rfl (fun K hK => ?_) AllReady.nil
    go_simp
    refine (sadd_new g1 mk B sb 32 96 _ hg1 hS3 hm3 hsbB hml (by omega) hmb.out).mono ?_
    rintro e w4 ⟨rfl, hS4, hE4⟩
    refine hK _ _ ?_
    clear hK K
    have HR4 := hid ((hE4.block gb hgl3 (by omega)).trans HR3.out)
    have hgl4 : gb < w4.heap.size := (Array.getElem?_eq_some_iff.1 HR4.out).1
    have HE4 := hid (HE3.out.trans hE4)
    have hg2 := addS_ok hg1 mk
    clear HR3 HE3 hE4 hS3 hm3 hmb
    refine wpAny_done (by kernel_rfl) ?_ _
    go_wp2_with fail
    refine wp_region_any (by kernel_rfl) ?_
    change wpAny _ _ _ _ _ _ _ (World.drew _)
    refine wpAny_take (i := 0) (v := ?_) rfl (by decide +kernel) (by decide +kernel) (by decide +kernel) (fun _ _ _ h => h) (Or.inl ⟨by rfl, ?_⟩) ?_
    rotate_left
    · intro w; go_simp; try with_reducible rfl
    simp only [Act.put, List.getElem_toArray, List.getElem_cons_zero, List.getElem_cons_succ, List.setIfInBounds_toArray, List.set_cons_zero, List.set_cons_succ]
    refine wpAny_take (i := 1) (v := ?_) rfl (by decide +kernel) (by decide +kernel) (by decide +kernel) (fun _ _ _ h => h) (Or.inl ⟨by rfl, ?_⟩) ?_
    rotate_left
    · intro w; go_simp; try with_reducible rfl
    simp only [Act.put, List.getElem_toArray, List.getElem_cons_zero, List.getElem_cons_succ, List.setIfInBounds_toArray, List.set_cons_zero, List.set_cons_succ]
    refine wpAny_take (i := 2) (v := ?_) rfl (by decide +kernel) (by decide +kernel) (by decide +kernel) (fun _ _ _ h => h) (Or.inl ⟨by rfl, ?_⟩) ?_
    rotate_left
    · intro w; go_simp; try with_reducible rfl
    simp only [Act.put, List.getElem_toArray, List.getElem_cons_zero, List.getElem_cons_succ, List.setIfInBounds_toArray, List.set_cons_zero, List.set_cons_succ]
    refine wpAny_take (i := 3) (v := ?_) rfl (by decide +kernel) (by decide +kernel) (by decide +kernel) (fun _ _ _ h => h) (Or.inl ⟨by rfl, ?_⟩) ?_
    rotate_left
    · intro w; go_simp; try with_reducible rfl
    simp only [Act.put, List.getElem_toArray, List.getElem_cons_zero, List.getElem_cons_succ, List.setIfInBounds_toArray, List.set_cons_zero, List.set_cons_succ]
    refine wpAny_take (i := 4) (v := ?_) rfl (by decide +kernel) (by decide +kernel) (by decide +kernel) (fun _ _ _ h => h) (Or.inl ⟨by rfl, ?_⟩) ?_
    rotate_left
    · intro w; go_simp; try with_reducible rfl
    simp only [Act.put, List.getElem_toArray, List.getElem_cons_zero, List.getElem_cons_succ, List.setIfInBounds_toArray, List.set_cons_zero, List.set_cons_succ]
    refine wpAny_take (i := 5) (v := ?_) rfl (by decide +kernel) (by decide +kernel) (by decide +kernel) (fun _ _ _ h => h) (Or.inl ⟨by rfl, ?_⟩) ?_
    rotate_left
    · intro w; go_simp; try with_reducible rfl
    simp only [Act.put, List.getElem_toArray, List.getElem_cons_zero, List.getElem_cons_succ, List.setIfInBounds_toArray, List.set_cons_zero, List.set_cons_succ]
    refine wpAny_take (i := 6) (v := ?_) rfl (by decide +kernel) (by decide +kernel) (by decide +kernel) (fun _ _ _ h => h) (Or.inl ⟨by rfl, ?_⟩) ?_
    rotate_left
    · intro w; go_simp; try with_reducible rfl
    simp only [Act.put, List.getElem_toArray, List.getElem_cons_zero, List.getElem_cons_succ, List.setIfInBounds_toArray, List.set_cons_zero, List.set_cons_succ]
    refine wpAny_ready (rs := [7]) (by kernel_rfl) (by simp) ?_
    refine AllReady.cons rfl (fun K hK => ?_) AllReady.nil
    go_simp
    refine (sadd_own ⟨addI g1.v mk, g1.c⟩ B w4.drew hg2 (show SgAt w4.drew B ⟨addI g1.v mk, g1.c⟩ from hS4)).mono ?_
    rintro e w5 ⟨rfl, hS5, hE5⟩
    refine hK _ _ ?_
    clear hK K
    dsimp only at hS5
    have HR5 := hid ((hE5.block gb hgl4 (by omega)).trans HR4.out)
    have hgl5 : gb < w5.heap.size := (Array.getElem?_eq_some_iff.1 HR5.out).1
    have HE5 := hid (HE4.out.drew.trans hE5)
    clear HR4 HE4 hE5 hS4
    refine wpAny_done (by kernel_rfl) ?_ _
    go_wp2_with fail
    refine (nsmall_any _ r B 0 [] _ _ (addI_len _ _) (addI_B _ _) rfl hS5.v hr0 hr1).mono ?_
    rintro e w6 ⟨rfl, hN6, hE6⟩
    have hS6 := SgAt.of_v hN6
    dsimp only at hS6
    rw [← Hb.out] at hS6
    have HR6 := hid ((hE6.block gb hgl5 (by omega)).trans HR5.out)
    have HE6 := hid (HE5.out.trans hE6)
    have HS6 := hid hS6
    clear HR5 HE5 hE6 hN6 hS6 hS5
    go_wp2
    go_ret
    exact ⟨gb, rfl, by omega, HR6.out, HS6.out, HE6.out⟩
  · have hp : 0 < xs.length := List.length_pos_iff.2 h0
    have hp' : (0 : Int) < xs.length := by omega
    have e1 : extraS g xs = ⟨addI g.v (markI 2 g.v xs), g.c⟩ := by unfold extraS; rw [if_neg h0]
    have He1 := hid e1
    have hml := markI_len 2 g.v xs
    have hmb := hid (markI_B 2 g.v xs)
    clear e1
    go_wp2_with fail
    refine wp_region_any (by kernel_rfl) ?_
    change wpAny _ _ _ _ _ _ _ (World.drew _)
    refine wpAny_take (i := 0) (v := ?_) rfl (by decide +kernel) (by decide +kernel) (by decide +kernel) (fun _ _ _ h => h) (Or.inl ⟨by rfl, ?_⟩) ?_
    rotate_left
    · intro w; go_simp; try with_reducible rfl
    simp only [Act.put, List.getElem_toArray, List.getElem_cons_zero, List.getElem_cons_succ, List.setIfInBounds_toArray, List.set_cons_zero, List.set_cons_succ]
    refine wpAny_take (i := 1) (v := ?_) rfl (by decide +kernel) (by decide +kernel) (by decide +kernel) (fun _ _ _ h => h) (Or.inl ⟨by rfl, ?_⟩) ?_
    rotate_left
    · intro w; go_simp; try with_reducible rfl
    simp only [Act.put, List.getElem_toArray, List.getElem_cons_zero, List.getElem_cons_succ, List.setIfInBounds_toArray, List.set_cons_zero, List.set_cons_succ]
    refine wpAny_take (i := 2) (v := ?_) rfl (by decide +kernel) (by decide +kernel) (by decide +kernel) (fun _ _ _ h => h) (Or.inl ⟨by rfl, ?_⟩) ?_
    rotate_left
    · intro w; go_simp; try with_reducible rfl
    simp only [Act.put, List.getElem_toArray, List.getElem_cons_zero, List.getElem_cons_succ, List.setIfInBounds_toArray, List.set_cons_zero, List.set_cons_succ]
    refine wpAny_take (i := 3) (v := ?_) rfl (by decide +kernel) (by decide +kernel) (by decide +kernel) (fun _ _ _ h => h) (Or.inl ⟨by rfl, ?_⟩) ?_
    rotate_left
    · intro w; go_simp; try with_reducible rfl
    simp only [Act.put, List.getElem_toArray, List.getElem_cons_zero, List.getElem_cons_succ, List.setIfInBounds_toArray, List.set_cons_zero, List.set_cons_succ]
    refine wpAny_take (i := 4) (v := ?_) rfl (by decide +kernel) (by decide +kernel) (by decide +kernel) (fun _ _ _ h => h) (Or.inl ⟨by rfl, ?_⟩) ?_
    rotate_left
    · intro w; go_simp; try with_reducible rfl
    simp only [Act.put, List.getElem_toArray, List.getElem_cons_zero, List.getElem_cons_succ, List.setIfInBounds_toArray, List.set_cons_zero, List.set_cons_succ]
    refine wpAny_ready (rs := [5]) (by kernel_rfl) (by simp) ?_
    refine AllReady.cons rfl (fun K hK => ?_) AllReady.nil
    go_simp
    refine (marked_any g 2 _ xs B w.drew hg (show SgAt w.drew B g from hS) (src_drew HV.out) hx).mono ?_
    rintro e w0 ⟨sb, rfl, hsb, hm0, hB0⟩
    refine hK _ _ ?_
    clear hK K
    have hS0 := hS.other (hB0.block B hlt)
    have HE0 := hid ((Ex.refl B w).drew.trans (Ex.of_below (B := B) hB0))
    have hsbB : sb ≠ B := by have : w.heap.size ≤ sb := hsb; omega
    clear hS hB0 hsb
    refine wpAny_ready (rs := [6]) (by kernel_rfl) (by simp) ?_
    refine AllReady.cons rfl (fun K hK => ?_) AllReady.nil
    go_simp
    refine (sadd_new g _ B sb 32 96 _ hg hS0 hm0 hsbB hml (by omega) hmb.out).mono ?_
    rintro e w1 ⟨rfl, hS1, hE1'⟩
    refine hK _ _ ?_
    clear hK K
    have hE1 := HE0.out.trans hE1'
    rw [← He1.out] at hS1
    generalize extraS g xs = g1 at *
    clear hE1' hS0 hm0 HE0 He1 hml hmb hsbB
    refine wpAny_done (by kernel_rfl) ?_ _
    have hlt1 := hS1.lt
    clear HV
    go_wp2_with fail
    refine (draw_any g1 n B _ hg1 hS1 hn).mono ?_
    rintro e w2 ⟨gb, rfl, hgb, hr2, hB2⟩
    rw [← Hr.out] at hr2
    have hS2 := hS1.other (hB2.block B hlt1)
    have hE2 := hE1.trans (Ex.of_below (B := B) hB2)
    have hz1 := hE1.size
    have hgl2 : gb < w2.heap.size := (Array.getElem?_eq_some_iff.1 hr2).1
    have HR2 := hid hr2
    have HS2 := hid hS2
    have HE2 := hid hE2
    clear hS1 hE1 hB2 hr2 hS2 hE2 Hr
    go_wp2_with fail
    refine wp_region_any (by kernel_rfl) ?_
    change wpAny _ _ _ _ _ _ _ (World.drew _)
    refine wpAny_take (i := 0) (v := ?_) rfl (by decide +kernel) (by decide +kernel) (by decide +kernel) (fun _ _ _ h => h) (Or.inl ⟨by rfl, ?_⟩) ?_
    rotate_left
    · intro w; go_simp; try with_reducible rfl
    simp only [Act.put, List.getElem_toArray, List.getElem_cons_zero, List.getElem_cons_succ, List.setIfInBounds_toArray, List.set_cons_zero, List.set_cons_succ]
    refine wpAny_take (i := 1) (v := ?_) rfl (by decide +kernel) (by decide +kernel) (by decide +kernel) (fun _ _ _ h => h) (Or.inl ⟨by rfl, ?_⟩) ?_
    rotate_left
    · intro w; go_simp; try with_reducible rfl
    simp only [Act.put, List.getElem_toArray, List.getElem_cons_zero, List.getElem_cons_succ, List.setIfInBounds_toArray, List.set_cons_zero, List.set_cons_succ]
    refine wpAny_take (i := 2) (v := ?_) rfl (by decide +kernel) (by decide +kernel) (by decide +kernel) (fun _ _ _ h => h) (Or.inl ⟨by rfl, ?_⟩) ?_
    rotate_left
    · intro w; go_simp; try with_reducible rfl
    simp only [Act.put, List.getElem_toArray, List.getElem_cons_zero, List.getElem_cons_succ, List.setIfInBounds_toArray, List.set_cons_zero, List.set_cons_succ]
    refine wpAny_take (i := 3) (v := ?_) rfl (by decide +kernel) (by decide +kernel) (by decide +kernel) (fun _ _ _ h => h) (Or.inl ⟨by rfl, ?_⟩) ?_
    rotate_left
    · intro w; go_simp; try with_reducible rfl
    simp only [Act.put, List.getElem_toArray, List.getElem_cons_zero, List.getElem_cons_succ, List.setIfInBounds_toArray, List.set_cons_zero, List.set_cons_succ]
    refine wpAny_ready (rs := [4]) (by kernel_rfl) (by simp) ?_
    refine AllReady.cons rfl (fun K hK => ?_) AllReady.nil
    go_simp
    refine (marked_any g1 3 _ [] B w2.drew hg1 (show SgAt w2.drew B g1 from HS2.out) (Src.nil _) (by simp)).mono ?_
    rintro e w3 ⟨sb, rfl, hsb, hm3, hB3⟩
    refine hK _ _ ?_
    clear hK K
    have hlt2 := HS2.out.lt
    have hS3 := HS2.out.other (hB3.block B hlt2)
    have HR3 := hid ((hB3.block gb hgl2).trans HR2.out)
    have hgl3 : gb < w3.heap.size := (Array.getElem?_eq_some_iff.1 HR3.out).1
    have HE3 := hid (HE2.out.drew.trans (Ex.of_below (B := B) hB3))
    have hml := markI_len 3 g1.v []
    have hmb := hid (markI_B 3 g1.v [])
    generalize markI 3 g1.v [] = mk at *
    have hsbB : sb ≠ B := by have : w2.heap.size ≤ sb := hsb; omega
    clear hsb HR2 HE2 HS2 hB3
    refine wpAny_ready (rs := [5]) (by kernel_rfl) (by simp) ?_
    refine AllReady.cons rfl (fun K hK => ?_) AllReady.nil
    go_simp
    refine (sadd_new g1 mk B sb 32 96 _ hg1 hS3 hm3 hsbB hml (by omega) hmb.out).mono ?_
    rintro e w4 ⟨rfl, hS4, hE4⟩
    refine hK _ _ ?_
    clear hK K
    have HR4 := hid ((hE4.block gb hgl3 (by omega)).trans HR3.out)
    have hgl4 : gb < w4.heap.size := (Array.getElem?_eq_some_iff.1 HR4.out).1
    have HE4 := hid (HE3.out.trans hE4)
    have hg2 := addS_ok hg1 mk
    clear HR3 HE3 hE4 hS3 hm3 hmb
    refine wpAny_done (by kernel_rfl) ?_ _
    go_wp2_with fail
    refine wp_region_any (by kernel_rfl) ?_
    change wpAny _ _ _ _ _ _ _ (World.drew _)
    refine wpAny_take (i := 0) (v := ?_) rfl (by decide +kernel) (by decide +kernel) (by decide +kernel) (fun _ _ _ h => h) (Or.inl ⟨by rfl, ?_⟩) ?_
    rotate_left
    · intro w; go_simp; try with_reducible rfl
    simp only [Act.put, List.getElem_toArray, List.getElem_cons_zero, List.getElem_cons_succ, List.setIfInBounds_toArray, List.set_cons_zero, List.set_cons_succ]
    refine wpAny_take (i := 1) (v := ?_) rfl (by decide +kernel) (by decide +kernel) (by decide +kernel) (fun _ _ _ h => h) (Or.inl ⟨by rfl, ?_⟩) ?_
    rotate_left
    · intro w; go_simp; try with_reducible rfl
    simp only [Act.put, List.getElem_toArray, List.getElem_cons_zero, List.getElem_cons_succ, List.setIfInBounds_toArray, List.set_cons_zero, List.set_cons_succ]
    refine wpAny_take (i := 2) (v := ?_) rfl (by decide +kernel) (by decide +kernel) (by decide +kernel) (fun _ _ _ h => h) (Or.inl ⟨by rfl, ?_⟩) ?_
    rotate_left
    · intro w; go_simp; try with_reducible rfl
    simp only [Act.put, List.getElem_toArray, List.getElem_cons_zero, List.getElem_cons_succ, List.setIfInBounds_toArray, List.set_cons_zero, List.set_cons_succ]
    refine wpAny_take (i := 3) (v := ?_) rfl (by decide +kernel) (by decide +kernel) (by decide +kernel) (fun _ _ _ h => h) (Or.inl ⟨by rfl, ?_⟩) ?_
    rotate_left
    · intro w; go_simp; try with_reducible rfl
    simp only [Act.put, List.getElem_toArray, List.getElem_cons_zero, List.getElem_cons_succ, List.setIfInBounds_toArray, List.set_cons_zero, List.set_cons_succ]
    refine wpAny_take (i := 4) (v := ?_) rfl (by decide +kernel) (by decide +kernel) (by decide +kernel) (fun _ _ _ h => h) (Or.inl ⟨by rfl, ?_⟩) ?_
    rotate_left
    · intro w; go_simp; try with_reducible rfl
    simp only [Act.put, List.getElem_toArray, List.getElem_cons_zero, List.getElem_cons_succ, List.setIfInBounds_toArray, List.set_cons_zero, List.set_cons_succ]
    refine wpAny_take (i := 5) (v := ?_) rfl (by decide +kernel) (by decide +kernel) (by decide +kernel) (fun _ _ _ h => h) (Or.inl ⟨by rfl, ?_⟩) ?_
    rotate_left
    · intro w; go_simp; try with_reducible rfl
    simp only [Act.put, List.getElem_toArray, List.getElem_cons_zero, List.getElem_cons_succ, List.setIfInBounds_toArray, List.set_cons_zero, List.set_cons_succ]
    refine wpAny_take (i := 6) (v := ?_) rfl (by decide +kernel) (by decide +kernel) (by decide +kernel) (fun _ _ _ h => h) (Or.inl ⟨by rfl, ?_⟩) ?_
    rotate_left
    · intro w; go_simp; try with_reducible rfl
    simp only [Act.put, List.getElem_toArray, List.getElem_cons_zero, List.getElem_cons_succ, List.setIfInBounds_toArray, List.set_cons_zero, List.set_cons_succ]
    refine wpAny_ready (rs := [7]) (by kernel_rfl) (by simp) ?_
    refine AllReady.cons rfl (fun K hK => ?_) AllReady.nil
    go_simp
    refine (sadd_own ⟨addI g1.v mk, g1.c⟩ B w4.drew hg2 (show SgAt w4.drew B ⟨addI g1.v mk, g1.c⟩ from hS4)).mono ?_
    rintro e w5 ⟨rfl, hS5, hE5⟩
    refine hK _ _ ?_
    clear hK K
    dsimp only at hS5
    have HR5 := hid ((hE5.block gb hgl4 (by omega)).trans HR4.out)
    have hgl5 : gb < w5.heap.size := (Array.getElem?_eq_some_iff.1 HR5.out).1
    have HE5 := hid (HE4.out.drew.trans hE5)
    clear HR4 HE4 hE5 hS4
    refine wpAny_done (by kernel_rfl) ?_ _
    go_wp2_with fail
    refine (nsmall_any _ r B 0 [] _ _ (addI_len _ _) (addI_B _ _) rfl hS5.v hr0 hr1).mono ?_
    rintro e w6 ⟨rfl, hN6, hE6⟩
    have hS6 := SgAt.of_v hN6
    dsimp only at hS6
    rw [← Hb.out] at hS6
    have HR6 := hid ((hE6.block gb hgl5 (by omega)).trans HR5.out)
    have HE6 := hid (HE5.out.trans hE6)
    have HS6 := hid hS6
    clear HR5 HE5 hE6 hN6 hS6 hS5
    go_wp2
    go_ret
    exact ⟨gb, rfl, by omega, HR6.out, HS6.out, HE6.out⟩

end Go.Proofs.YtbifmhbkmnofiaaGreat