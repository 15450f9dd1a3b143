import Derived.Test.YtbifmhbkmnofiaaGg
namespace Go.Proofs.Ytbifmhbkmnofiaa
open Go.RowKit
set_option linter.unusedVariables false
set_option linter.unusedSimpArgs false
theorem src_new (w : World) (bs : List Int) (cap : Nat) : Src (w.alloc (.cells (bs.map (Value.int .u8)).toArray 5)) (.slice (some ⟨w.heap.size, 0, none⟩) bs.length cap) bs :=
  Or.inr ⟨_, cap, rfl, fun j u hu => by
    rw [Addr.add_mid, cell_of_row _ _ _ _ _ _ (al_new w (.cells (bs.map (Value.int .u8)).toArray 5))]; simpa using hu⟩
theorem slv_heap {w : World} {B cap : Nat} {vs : List Value} {t : TypeId} {fr : Nat × Nat} (h : w.heap[B]? = some (.cells vs.toArray t fr)) : SlV w (.slice (some ⟨B, 0, none⟩) vs.length cap) vs :=
  ⟨_, cap, rfl, fun _ => ⟨B, 0, rfl, fun j u hu => by rw [cell_of_row _ _ _ _ _ _ h]; simpa using hu⟩⟩
/-- the slices that are joined lie in a new row -/
theorem concat_new (ps : List (Value × List Int)) (w : World) (n cap : Nat) (cs : Array Value) (xs : List Int) (hn : ps.length = n) (hcs : cs = (ps.map (·.1)).toArray) (hs : ∀ p ∈ ps, Src w p.1 p.2) (hx : sizes ps ps.length = xs) (hl : n ≤ 1000) (hxl : xs.length ≤ 1000000) :
    Calls Try.prog 85 #[.slice (some ⟨w.heap.size, 0, none⟩) n cap] (w.alloc (.cells cs 35)) fun e w' => ∃ r, e = .returned r ∧ Src w' r xs ∧ Below w.heap.size w w' := by
  subst hcs
  have hB : Below w.heap.size w (w.alloc (.cells (ps.map (·.1)).toArray 35)) := (Below.refl _ _).alloc (Nat.le_refl _) _
  have hv : SlV (w.alloc (.cells (ps.map (·.1)).toArray 35)) (.slice (some ⟨w.heap.size, 0, none⟩) n cap) (ps.map (·.1)) := by
    have := slv_heap (cap := cap) (al_new w (.cells (ps.map (·.1)).toArray 35))
    rw [List.length_map, hn] at this
    exact this
  refine (concat_any _ ps _ hv (fun p hp => (hs p hp).mono hB) (by omega) (by rw [hx]; exact hxl)).mono ?_
  rintro e w' ⟨r, rfl, hown, hB2⟩
  exact ⟨r, rfl, by rw [← hx]; exact hown.src, hB.trans (hB2.mono (by simp))⟩
def strF (xs : List Int) (k : Nat) : List Int := shaI (((k : Int) + 1) :: 0 :: 0 :: 1 :: 184 :: xs)
theorem strF_len (xs : List Int) (k : Nat) : (strF xs k).length = 32 := by unfold strF; exact shaI_len _
/-- some bytes stretched to 55 -/
def stretchI (xs : List Int) : List Int := part (strF xs) 55 2
theorem stretchI_len (xs : List Int) : (stretchI xs).length = 55 := part_len _ (strF_len xs) 55 2
theorem byt_src_sub (k : Nat) (h : k ≤ 1) : (55 : Nat) - 32 * k = Nat.max (55 - 32 * k) 1 := by
  have : k = 0 ∨ k = 1 := by omega
  rcases this with rfl | rfl <;> rfl
set_option maxRecDepth 20000 in
set_option maxHeartbeats 1000000 in
theorem stretch_any (v : Value) (xs : List Int) (w : World) (hv : Src w v xs) (hx : xs.length ≤ 1000) :
    Calls Try.prog 95 #[v] w fun e w' => e = .returned (.agg (ints .u8 (stretchI xs))) ∧ Below w.heap.size w w' := by
  obtain ⟨ao, cp, hve⟩ := hv.form
  rw [hve] at hv
  rw [hve]
  clear hve
  have HV := hid hv
  clear hv
  have Hst := hid (show stretchI xs = part (strF xs) 55 2 from rfl)
  have hr1 := al2_1 w (.cells (ints .u8 (zeros 55)) 117) (.cells (ints .u8 (zeros 55)) 117)
  have ho1 := al2_2 w (.cells (ints .u8 (zeros 55)) 117) (.cells (ints .u8 (zeros 55)) 117)
  have hB1 : Below w.heap.size w ((w.alloc (.cells (ints .u8 (zeros 55)) 117)).alloc (.cells (ints .u8 (zeros 55)) 117)) := ((Below.refl _ _).alloc (Nat.le_refl _) _).alloc (by simp) _
  go_enter Try.func95, Try.ntmps95
  go_wp2_with (refine wpList_alloc_eq rfl 117 rfl (ints .u8 (zeros 55)) Try.alloc117 ?_)
  generalize ((w.alloc (.cells (ints .u8 (zeros 55)) 117)).alloc (.cells (ints .u8 (zeros 55)) 117)) = w1 at *
  go_loopw [4, 5] (fun a p wr => ∃ k : Nat, k ≤ 2 ∧ a = .int .i64 ((Nat.min (32 * k) 55 : Nat) : Int) ∧ p = .int .u8 ((k : Int) + 1) ∧ wr.heap[w.heap.size + 1]? = some (.cells (ints .u8 (part (strF xs) 55 k)) 117 (0, 0)) ∧ wr.heap[w.heap.size]? = some (.cells (ints .u8 (zeros 55)) 117 (0, 0)) ∧ Below w.heap.size w wr) (fun _ p _ => 10 - (intOf p).toNat)
  case atStart => exact ⟨0, by omega, rfl, rfl, by rw [part_zero]; exact ho1, hr1, hB1⟩
  case round =>
    clear ho1 hr1 hB1
    obtain ⟨k, hk, rfl, rfl, ho, hr, hB⟩ := hrel
    by_cases hk2 : k < 2
    · have hmin : Nat.min (32 * k) 55 = 32 * k := Nat.min_eq_left (by omega)
      rw [hmin]
      have hps := hid (part_step (strF xs) (strF_len xs) 55 k (by omega))
      have hpl := hid (part_len (strF xs) (strF_len xs) 55 k)
      have hsl := strF_len xs k
      have Hsf := hid (show strF xs k = shaI (((k : Int) + 1) :: 0 :: 0 :: 1 :: 184 :: xs) from rfl)
      have hlt' : ((32 * k : Nat) : Int) < 55 := by omega
      have hlo := (Array.getElem?_eq_some_iff.1 ho).1
      generalize strF xs k = sk at *
      generalize hP0 : part (strF xs) 55 k = P0 at *
      generalize hP1 : part (strF xs) 55 (k + 1) = P1 at *
      have HP1 := hid hP1
      have HO := hid ho
      have HR := hid hr
      clear hP0 hP1 ho hr hmin
      have hB2 : Below wr.heap.size wr (wr.alloc (.cells #[Value.int .u8 ((k : Int) + 1), Value.int .u8 0, Value.int .u8 0, Value.int .u8 1, Value.int .u8 184] 5)) := (Below.refl _ _).alloc (Nat.le_refl _) _
      have hz2 := al_size wr (.cells #[Value.int .u8 ((k : Int) + 1), Value.int .u8 0, Value.int .u8 0, Value.int .u8 1, Value.int .u8 184] 5)
      have s1 := hid (src_new wr [(k : Int) + 1, 0, 0, 1, 184] 5)
      have s2 := hid (HV.out.mono hB)
      simp only [List.map_cons, List.map_nil] at s1
      go_wp2_with fail
      generalize (wr.alloc (.cells #[Value.int .u8 ((k : Int) + 1), Value.int .u8 0, Value.int .u8 0, Value.int .u8 1, Value.int .u8 184] 5)) = w2 at *
      rw [← hz2]
      refine (concat_new [(.slice (some ⟨wr.heap.size, 0, none⟩) 5 5, [(k : Int) + 1, 0, 0, 1, 184]), (.slice ao xs.length cp, xs)] w2 2 2 _ (((k : Int) + 1) :: 0 :: 0 :: 1 :: 184 :: xs) rfl rfl ?_ (by simp [sizes]) (by omega) (by simp; omega)).mono ?_
      · intro p hp
        simp only [List.mem_cons, List.not_mem_nil, or_false] at hp
        rcases hp with rfl | rfl
        · exact s1.out
        · exact s2.out.mono hB2
      rintro e w3 ⟨r, rfl, hsr, hB3⟩
      have hC3 := hB2.trans (hB3.mono (by omega))
      clear hB2 hB3 s1 s2 hz2
      go_wp2_with fail
      refine (DSum_any _ _ _ hsr.byt (by simp; omega)).mono ?_
      rintro e w4 ⟨rfl, hB4⟩
      rw [← Hsf.out]
      have hC4 := hC3.trans (hB4.mono hC3.size)
      clear hC3 hB4 hsr Hsf
      have HO4 := hid ((hC4.block _ hlo).trans HO.out)
      have HR4 := hid ((hC4.block w.heap.size (by omega)).trans HR.out)
      have hz4 := hC4.size
      have hC5 := hB.trans (hC4.mono hB.size)
      clear HO HR hC4 hB
      have hi5 : ((w4.alloc (.cells (ints .u8 Z32) 68)).setRow w4.heap.size (ints .u8 sk)).heap[w4.heap.size]? = some (.cells (ints .u8 sk) 68 (0, 0)) := setRow_heap _ _ _ _ _ _ (al_new _ _)
      have ho5 : ((w4.alloc (.cells (ints .u8 Z32) 68)).setRow w4.heap.size (ints .u8 sk)).heap[w.heap.size + 1]? = some (.cells (ints .u8 P0) 117 (0, 0)) := (heap_setRow _ _ _ _ (by omega)).trans (al_old _ _ _ _ HO4.out)
      have hr5 : ((w4.alloc (.cells (ints .u8 Z32) 68)).setRow w4.heap.size (ints .u8 sk)).heap[w.heap.size]? = some (.cells (ints .u8 (zeros 55)) 117 (0, 0)) := (heap_setRow _ _ _ _ (by omega)).trans (al_old _ _ _ _ HR4.out)
      have hB5 : Below w.heap.size w ((w4.alloc (.cells (ints .u8 Z32) 68)).setRow w4.heap.size (ints .u8 sk)) := below_setRow (hC5.alloc (by omega) _) _ (by omega) _
      clear HO4 HR4 hC5
      go_wp2_with (first
        | refine wpList_alloc_eq rfl 68 rfl (ints .u8 Z32) Try.alloc68 ?_
        | refine wpList_store_row rfl 68 _ _ rfl w4.heap.size (ints .u8 sk) rfl rfl 68 (ints .u8 Z32) (al_new _ _) (by rw [ints_size, hsl]; exact Try.info68) (by rw [ints_size, ints_size, hsl]; rfl) (ints_one _ _) ?_)
      generalize ((w4.alloc (.cells (ints .u8 Z32) 68)).setRow w4.heap.size (ints .u8 sk)) = w5 at *
      generalize w4.heap.size = sb at *
      generalize hcs : (sk.take (55 - 32 * k)).map (Value.int .u8) = cs at *
      have hps2 := hid (hps.out cs rfl)
      have hcl : cs.length = Nat.min 32 (55 - 32 * k) := by rw [← hcs, List.length_map, List.length_take, hsl]; exact Nat.min_comm _ _
      have hcl2 : Hd (32 * k + cs.length = Nat.min (32 * (k + 1)) 55) := hid (by
        rw [hcl]
        have : k = 0 ∨ k = 1 := by omega
        rcases this with rfl | rfl <;> rfl)
      have hcl3 : cs.length ≤ 32 := by rw [hcl]; exact Nat.min_le_left _ _
      have Hfit : Hd (32 * k + cs.length ≤ (P0.map (Value.int .u8)).length) := hid (by rw [hcl, List.length_map, hpl.out]; have : Nat.min 32 (55 - 32 * k) ≤ 55 - 32 * k := Nat.min_le_right 32 (55 - 32 * k); omega)
      have Hone : Hd (∀ v ∈ cs, v.oneCell' = true) := hid (by rw [← hcs]; exact one_ints _ _)
      have Hcl := hid hcl
      have Ho5 := hid ho5
      have Hr5 := hid hr5
      have HB5 := hid hB5
      have Hi5 := hid hi5
      have Hcs := hid hcs
      clear hcs hps hcl hpl ho5 hr5 hB5 hi5
      have q1 : (0 : Int) ≤ 32 * (k : Int) := by omega
      have q2 : 32 * (k : Int) ≤ 55 := by omega
      have q3 : (32 * (k : Int)).toNat = 32 * k := by omega
      have q4 : ¬ 55 = 32 * k := by omega
      have Hpos : Hd (0 < cs.length → some (⟨w.heap.size + 1, 32 * k, none⟩ : Addr) = some ⟨w.heap.size + 1, 32 * k, none⟩ ∧ ∃ ad, some (⟨sb, 0, none⟩ : Addr) = some ad ∧ ∀ j u, cs[j]? = some u → w5.drew.cell? (ad.add j) = some u) :=
        hid fun _ => ⟨rfl, _, rfl, fun j u hu => by
          rw [← Hcs.out] at hu
          have hj := (List.getElem?_eq_some_iff.1 hu).1
          rw [List.length_map, List.length_take] at hj
          rw [Addr.add_mid, Nat.zero_add, World.cell?_drew, (cells_of _ _ _ _ _ Hi5.out).1 j (by omega), ← hu, List.getElem?_map, List.getElem?_take, if_pos (by omega)]
          simp [List.getElem?_eq_getElem (show j < sk.length by omega)]⟩
      clear Hcs Hi5
      go_region_law ((refine step_copy_splice rfl (.tmp 19) (.tmp 20) 35 35 rfl 5 Try.underlying35 Try.info5 (some ⟨w.heap.size + 1, 32 * k, none⟩) (some ⟨sb, 0, none⟩) (55 - 32 * k) (55 - 32 * k) 32 32 (by simp [Act.eval, Act.put]) (by simp [Act.eval, Act.put]) (w.heap.size + 1) (32 * k) _ 117 Ho5.out cs Hcl.out Hpos.out Hfit.out Hone.out (w.heap.size + 1) _ (Below.refl _ _) (by omega) ?_; intro w6 hg6 hb6))
      rw [hps2.out] at hg6
      have hg7 := hid (show w6.heap[w.heap.size + 1]? = some (.cells (ints .u8 P1) 117 (0, 0)) from hg6)
      have hr7 := hid ((hb6.block w.heap.size (by omega)).trans Hr5.out)
      have hB7 := hid (HB5.out.drew.trans (hb6.mono (by omega)))
      clear hg6 hb6 Ho5 Hr5 HB5 Hpos
      go_wp2
      refine ⟨⟨k + 1, by omega, ?_, ?_, ?_, hr7.out, hB7.out⟩, ?_⟩
      · rw [← hcl2.out]; go_num
      · go_num
      · rw [HP1.out]; exact hg7.out
      · simp [intOf]; omega
    · obtain rfl : k = 2 := by omega
      rw [← Hst.out] at ho
      have hsl := stretchI_len xs
      generalize hss : stretchI xs = ss at *
      have Hss := hid hss
      clear hss
      have HO := hid ho
      have HR := hid hr
      have HB := hid hB
      clear ho hr hB
      go_wp2_with (first
        | refine wpList_load_row rfl 117 _ rfl (w.heap.size + 1) rfl 117 (ints .u8 ss) (0,0) _ HO.out Try.underlying117 rfl (by rw [ints_size, hsl]; exact Try.info117) ?_
        | refine wpList_store_row rfl 117 _ _ rfl w.heap.size (ints .u8 ss) rfl rfl 117 (ints .u8 (zeros 55)) HR.out (by rw [ints_size, hsl]; exact Try.info117) (by rw [ints_size, ints_size, hsl]; rfl) (ints_one _ _) ?_)
      exact bodyPost_ret (results_cell_row (fn := Try.f95) Try.results95 _ _ w.heap.size 117 (ints .u8 ss) (0,0) _ rfl (setRow_heap _ _ _ _ _ _ HR.out) Try.underlying117 rfl (by rw [ints_size, hsl]; exact Try.info117)) rfl ⟨by rw [Hss.out], below_setRow HB.out _ (Nat.le_refl _) _⟩
end Go.Proofs.Ytbifmhbkmnofiaa
