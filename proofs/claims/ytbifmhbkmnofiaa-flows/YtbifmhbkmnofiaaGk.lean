import Derived.Test.YtbifmhbkmnofiaaGj
namespace Go.Proofs.Ytbifmhbkmnofiaa
open Go.RowKit
set_option linter.unusedVariables false
set_option linter.unusedSimpArgs false
/-- 'copy' as a step of a region, the world behind it told whole -/
theorem step_copy_set {ops : Array Oper} {o : Oper} {a : Act} {w : World} {K : Act → World → Prop} {Q : Exit → Act → World → Prop} {E : Prop} (hgd : o.guard = none) (d s : Operand)
    (ho : o.op = .call { callee := .builtin .copy, args := #[d, s], argTypes := #[35, 35] })
    (g off dLen dCap sLen sCap : Nat) (ad : Addr) (hd : a.eval d = .slice (some ⟨g, off, none⟩) dLen dCap) (hs : a.eval s = .slice (some ad) sLen sCap)
    (cur : List Value) (t : TypeId) (hg : w.heap[g]? = some (.cells cur.toArray t (0, 0))) (cs : List Value) (hn : cs.length = Nat.min sLen dLen)
    (hsrc : ∀ j v, cs[j]? = some v → w.cell? (ad.add j) = some v) (hfit : off + cs.length ≤ cur.length) (h1 : ∀ v ∈ cs, v.oneCell' = true)
    (h : K (a.put o.dst (goInt cs.length)) (w.setRow g (splice cur off cs).toArray)) :
    if Region.wanted o (yielded ops a.tmps) = true then Oper.wp Try.prog o a w K Q else E := by
  have hw : Region.wanted o (yielded ops a.tmps) = true := by simp [Region.wanted, hgd]
  rw [if_pos hw]
  have hrun := run_copy_row (P := Try.prog) w 35 35 o.type 5 g off dLen dCap ad sLen sCap cur.toArray t cs Try.underlying35 Try.info5 hg hn hsrc (by simpa using hfit) h1
  unfold Oper.wp
  simp [execOp, ho, resolve, invoke, builtin, hd, hs, hrun, Result.andThen]
  exact h
def cntN (V : List Int) : Nat → List Int
  | 0 => V
  | k + 1 => addI (cntN V k) (be8 1)
theorem cntN_len {V : List Int} (h : V.length = 55) : ∀ k, (cntN V k).length = 55
  | 0 => h
  | k + 1 => by rw [cntN]; exact addI_len _ _
theorem cntN_B {V : List Int} (h : allB V) : ∀ k, allB (cntN V k)
  | 0 => h
  | k + 1 => by rw [cntN]; exact addI_B _ _
def sumF (V : List Int) (k : Nat) : List Int := shaI (cntN V k)
theorem sumF_len (V : List Int) (k : Nat) : (sumF V k).length = 32 := by unfold sumF; exact shaI_len _
def drawS (V : List Int) (n : Nat) : List Int := (rows32 (sumF V) (blk n)).take n
theorem drawS_len (V : List Int) (n : Nat) : (drawS V n).length = n := by
  unfold drawS
  rw [List.length_take, rows32_len _ (sumF_len V)]
  unfold blk; omega
theorem drawS_few (V : List Int) (n m : Nat) (hnm : n ≤ m) : drawS V n = (drawS V m).take n := by
  unfold drawS
  rw [List.take_take, Nat.min_eq_left hnm]
  have hb : blk n ≤ blk m := by unfold blk; omega
  obtain ⟨d, hd⟩ := Nat.exists_eq_add_of_le hb
  obtain ⟨ys, hy⟩ := rows32_add (sumF V) (blk n) d
  rw [hd, hy, List.take_append_of_le_length]
  rw [rows32_len _ (sumF_len V)]; unfold blk; omega
theorem NumAt.byt {w : World} {B : Nat} {V : List Int} (h : NumAt w B [] [] V) (hV : V.length = 55) : Byt w (.slice (some ⟨B, 0, none⟩) 55 55) V :=
  Or.inr ⟨B, 0, 55, by rw [hV], fun j hj => by have := h.mid j hj; rwa [List.length_nil] at this⟩
theorem NumAt.range {w : World} {B : Nat} {post : List Value} {V : List Int} (h : NumAt w B [] post V) : w.rangeAt B 0 (V.map (Value.int .u8)) := fun j v hv => by
  have hj : j < (V.map (Value.int .u8)).length := (List.getElem?_eq_some_iff.1 hv).1
  rw [Nat.zero_add, h.cell, List.nil_append, List.getElem?_append_left hj, hv]
theorem NumAt.of_ints {w : World} {B : Nat} {V : List Int} {t : TypeId} (h : w.heap[B]? = some (.cells (ints .u8 V) t (0, 0))) : NumAt w B [] [] V :=
  ⟨t, by rw [h]; simp [ints]⟩
set_option maxRecDepth 20000 in
set_option maxHeartbeats 1000000 in
theorem draw_any (g : SG) (n B : Nat) (w : World) (hg : g.ok) (hS : SgAt w B g) (hn : n ≤ 100000) :
    Calls Try.prog 92 #[.pointer (some ⟨B, 0, none⟩), .int .i64 n] w fun e w' => ∃ gb, e = .returned (.slice (some ⟨gb, 0, none⟩) n n) ∧ w.heap.size ≤ gb ∧ w'.heap[gb]? = some (.cells (ints .u8 (drawS g.v n)) 5 (0, 0)) ∧ Below w.heap.size w w' := by
  have hlt := hS.lt
  have hB1 : Below w.heap.size w (w.alloc (.cells (ints .u8 (zeros n)) 5)) := (Below.refl _ _).alloc (Nat.le_refl _) _
  have hz1 := al_size w (.cells (ints .u8 (zeros n)) 5)
  have hr1 := al_new w (.cells (ints .u8 (zeros n)) 5)
  have hS1 := hS.other (hB1.block B hlt)
  have Hrg := hid hS1.v.range
  have Hi : Hd ((Try.prog.info? 117).map (·.size) = some (g.v.map (Value.int .u8)).length) := hid (by rw [List.length_map, hg.vl]; exact Try.info117)
  have Hr := hid (show drawS g.v n = (rows32 (sumF g.v) (blk n)).take n from rfl)
  have hvl := hg.vl
  have hvb := hg.vb
  clear hS hS1
  generalize g.v = V at *
  have hB2 : Below w.heap.size w (((w.alloc (.cells (ints .u8 (zeros n)) 5)).alloc (.cells (ints .u8 (zeros 55)) 117)).setRow (w.alloc (.cells (ints .u8 (zeros n)) 5)).heap.size (ints .u8 V)) := below_setRow (hB1.alloc hB1.size _) _ hB1.size _
  have hr2 : (((w.alloc (.cells (ints .u8 (zeros n)) 5)).alloc (.cells (ints .u8 (zeros 55)) 117)).setRow (w.alloc (.cells (ints .u8 (zeros n)) 5)).heap.size (ints .u8 V)).heap[w.heap.size]? = some (.cells (ints .u8 (zeros n)) 5 (0, 0)) := (heap_setRow _ _ _ _ (by omega)).trans (al_old _ _ _ _ hr1)
  have hc2 : (((w.alloc (.cells (ints .u8 (zeros n)) 5)).alloc (.cells (ints .u8 (zeros 55)) 117)).setRow (w.alloc (.cells (ints .u8 (zeros n)) 5)).heap.size (ints .u8 V)).heap[(w.alloc (.cells (ints .u8 (zeros n)) 5)).heap.size]? = some (.cells (ints .u8 V) 117 (0, 0)) := setRow_heap _ _ _ _ _ _ (al_new _ _)
  rw [hz1] at hB2 hr2 hc2
  have Hnew := hid (show ((w.alloc (.cells (ints .u8 (zeros n)) 5)).alloc (.cells (ints .u8 (zeros 55)) 117)).heap[w.heap.size + 1]? = some (.cells (ints .u8 (zeros 55)) 117 (0, 0)) from al2_2 _ _ _)
  have Hcast : Hd (Value.agg (V.map (Value.int .u8)).toArray = Value.agg (ints .u8 V)) := hid rfl
  have HB2 := hid hB2
  have Hr2 := hid hr2
  have Hc2 := hid hc2
  clear hB1 hr1 hz1 hB2 hr2 hc2
  go_enter Try.func92, Try.ntmps92
  go_wp2_with (first
    | refine wpList_makeB rfl _ _ rfl n (by omega) rfl rfl ?_
    | (refine wpList_load_mid rfl 117 _ rfl B 0 rfl (V.map (Value.int .u8)) _ Hrg.out Try.underlying117 rfl Hi.out ?_; rw [Hcast.out])
    | refine wpList_alloc_eq rfl 117 rfl (ints .u8 (zeros 55)) Try.alloc117 ?_
    | refine wpList_store_row rfl 117 _ _ rfl (w.alloc (.cells (ints .u8 (zeros n)) 5)).heap.size (ints .u8 V) rfl rfl 117 (ints .u8 (zeros 55)) (al_new _ _) (by rw [ints_size, hvl]; exact Try.info117) (by rw [ints_size, ints_size, hvl]; rfl) (ints_one _ _) ?_)
  have hN2 := hid (NumAt.of_ints Hc2.out)
  clear Hc2 Hnew Hrg Hi Hcast
  generalize (((w.alloc (.cells (ints .u8 (zeros n)) 5)).alloc (.cells (ints .u8 (zeros 55)) 117)).setRow (w.heap.size + 1) (ints .u8 V)) = w2 at *
  go_loopw [7] (fun i wr => ∃ k : Nat, k ≤ blk n ∧ i = .int .i64 ((32 * k : Nat) : Int) ∧ NumAt wr (w.heap.size + 1) [] [] (cntN V k) ∧ wr.heap[w.heap.size]? = some (.cells (ints .u8 (part (sumF V) n k)) 5 (0, 0)) ∧ Below w.heap.size w wr) (fun i _ => 32 * blk n - (intOf i).toNat)
  case atStart => exact ⟨0, by omega, rfl, hN2.out, by rw [part_zero]; exact Hr2.out, HB2.out⟩
  case round =>
    clear hN2 Hr2 HB2
    obtain ⟨k, hk, rfl, hN, hr, hB⟩ := hrel
    have hbn : blk n = (n + 31) / 32 := rfl
    by_cases hlt : 32 * k < n
    · have hkb : k < blk n := by omega
      have hps := hid (part_step (sumF V) (sumF_len V) n k hlt)
      have hpl := hid (part_len (sumF V) (sumF_len V) n k)
      have hsl := sumF_len V k
      have Hsf := hid (show sumF V k = shaI (cntN V k) from rfl)
      have hcn := hid (show cntN V (k + 1) = addI (cntN V k) (be8 1) from rfl)
      have hcl0 := cntN_len hvl k
      have hcb0 := cntN_B hvb k
      have hlt' : ((32 * k : Nat) : Int) < n := by omega
      generalize sumF V k = sk at *
      generalize cntN V k = cv at *
      generalize hP0 : part (sumF V) n k = P0 at *
      generalize hP1 : part (sumF V) n (k + 1) = P1 at *
      have HP1 := hid hP1
      have HN := hid hN
      have HR := hid hr
      have HB := hid hB
      have hlc := hN.lt
      clear hP0 hP1 hN hr hB
      go_wp2_with fail
      refine (DSum_any _ _ _ (HN.out.byt hcl0) (by rw [hcl0]; omega)).mono ?_
      rintro e w4 ⟨rfl, hB4⟩
      rw [← Hsf.out]
      have hN4 := hid (HN.out.other (hB4.block _ hlc))
      have hr4 := hid ((hB4.block w.heap.size (by omega)).trans HR.out)
      have hz4 := hB4.size
      have hC4 := hid (HB.out.trans (hB4.mono HB.out.size))
      clear HN HR HB hB4 Hsf
      have hi5 : ((w4.alloc (.cells (ints .u8 Z32) 68)).setRow w4.heap.size (ints .u8 sk)).heap[w4.heap.size]? = some (.cells (ints .u8 sk) 68 (0, 0)) := setRow_heap _ _ _ _ _ _ (al_new _ _)
      have hr5 : ((w4.alloc (.cells (ints .u8 Z32) 68)).setRow w4.heap.size (ints .u8 sk)).heap[w.heap.size]? = some (.cells (ints .u8 P0) 5 (0, 0)) := (heap_setRow _ _ _ _ (by omega)).trans (al_old _ _ _ _ hr4.out)
      have hN5 : NumAt ((w4.alloc (.cells (ints .u8 Z32) 68)).setRow w4.heap.size (ints .u8 sk)) (w.heap.size + 1) [] [] cv := hN4.out.other ((heap_setRow _ _ _ _ (by omega)).trans (Below.heap_alloc _ _ _ (by omega)))
      have hB5 : Below w.heap.size w ((w4.alloc (.cells (ints .u8 Z32) 68)).setRow w4.heap.size (ints .u8 sk)) := below_setRow (hC4.out.alloc (by omega) _) _ (by omega) _
      clear hr4 hN4 hC4
      go_wp2_with (first
        | refine wpList_alloc_eq rfl 68 rfl (ints .u8 Z32) Try.alloc68 ?_
        | refine wpList_store_row rfl 68 _ _ rfl w4.heap.size (ints .u8 sk) rfl rfl 68 (ints .u8 Z32) (al_new _ _) (by rw [ints_size, hsl]; exact Try.info68) (by rw [ints_size, ints_size, hsl]; rfl) (ints_one _ _) ?_)
      generalize ((w4.alloc (.cells (ints .u8 Z32) 68)).setRow w4.heap.size (ints .u8 sk)) = w5 at *
      generalize w4.heap.size = sb at *
      generalize hcs : (sk.take (n - 32 * k)).map (Value.int .u8) = cs at *
      have hps2 := hid (hps.out cs rfl)
      have hcl : cs.length = Nat.min 32 (n - 32 * k) := by rw [← hcs, List.length_map, List.length_take, hsl]; exact Nat.min_comm _ _
      have Hfit : Hd (32 * k + cs.length ≤ (P0.map (Value.int .u8)).length) := hid (by rw [hcl, List.length_map, hpl.out]; have : Nat.min 32 (n - 32 * k) ≤ n - 32 * k := Nat.min_le_right 32 (n - 32 * k); omega)
      have Hone : Hd (∀ v ∈ cs, v.oneCell' = true) := hid (by rw [← hcs]; exact one_ints _ _)
      have Hcl := hid hcl
      have Hr5 := hid hr5
      have HN5 := hid hN5
      have HB5 := hid hB5
      have Hsrc : Hd (∀ j u, cs[j]? = some u → w5.drew.cell? ((⟨sb, 0, none⟩ : Addr).add j) = some u) := hid fun j u hu => by
        rw [← hcs] at hu
        have hj := (List.getElem?_eq_some_iff.1 hu).1
        rw [List.length_map, List.length_take] at hj
        rw [Addr.add_mid, Nat.zero_add, World.cell?_drew, (cells_of _ _ _ _ _ hi5).1 j (by omega), ← hu, List.getElem?_map, List.getElem?_take, if_pos (by omega)]
        simp [List.getElem?_eq_getElem (show j < sk.length by omega)]
      clear hcs hps hcl hpl hr5 hN5 hB5 hi5
      have q1 : (0 : Int) ≤ 32 * (k : Int) := by omega
      have q2 : 32 * (k : Int) ≤ (n : Int) := by omega
      have q3 : (32 * (k : Int)).toNat = 32 * k := by omega
      have q4 : ¬ n = 32 * k := by omega
      go_region_law ((refine step_copy_set rfl (.tmp 24) (.tmp 25) rfl w.heap.size (32 * k) (n - 32 * k) (n - 32 * k) 32 32 ⟨sb, 0, none⟩ (by simp [Act.eval, Act.put]) (by simp [Act.eval, Act.put]) (P0.map (Value.int .u8)) 5 Hr5.out cs Hcl.out Hsrc.out Hfit.out Hone.out ?_))
      rw [hps2.out]
      have hr6 : (w5.drew.setRow w.heap.size (P1.map (Value.int .u8)).toArray).heap[w.heap.size]? = some (.cells (ints .u8 P1) 5 (0, 0)) := setRow_heap _ _ _ _ _ _ Hr5.out
      have hN6 : NumAt (w5.drew.setRow w.heap.size (P1.map (Value.int .u8)).toArray) (w.heap.size + 1) [] [] cv := HN5.out.other (heap_setRow _ _ _ _ (by omega))
      have hB6 : Below w.heap.size w (w5.drew.setRow w.heap.size (P1.map (Value.int .u8)).toArray) := below_setRow HB5.out.drew _ (Nat.le_refl _) _
      generalize (w5.drew.setRow w.heap.size (P1.map (Value.int .u8)).toArray) = w6 at *
      clear Hr5 HN5 HB5 Hsrc Hfit Hone Hcl hps2
      go_wp2_with fail
      refine (nsmall_any cv 1 (w.heap.size + 1) 0 [] [] _ hcl0 hcb0 rfl hN6 (by omega) (by omega)).mono ?_
      rintro e w7 ⟨rfl, hN7, hE7⟩
      rw [← hcn.out] at hN7
      have hlt6 : w.heap.size < w6.heap.size := (Array.getElem?_eq_some_iff.1 hr6).1
      have hr7 := hid ((hE7.block w.heap.size hlt6 (by omega)).trans hr6)
      have hB7 := hid (hB6.trans (hE7.below (by omega) (by omega)))
      have HN7 := hid hN7
      clear hr6 hB6 hN6 hE7 hN7 hcn
      go_wp2
      exact ⟨⟨k + 1, by omega, by go_num, HN7.out, by rw [HP1.out]; exact hr7.out, hB7.out⟩, by simp [intOf]; omega⟩
    · obtain rfl : k = blk n := by omega
      rw [part_end, ← Hr.out] at hr
      have HR := hid hr
      clear hr
      have hnl : ¬ ((32 * blk n : Nat) : Int) < n := by omega
      go_wp2
      go_ret
      exact ⟨w.heap.size, rfl, Nat.le_refl _, HR.out, hB⟩
end Go.Proofs.Ytbifmhbkmnofiaa
