import Derived.Test.YtbifmhbkmnofiaaGreatMa
namespace Go.Proofs.YtbifmhbkmnofiaaGreat
open Go.RowKit
set_option linter.unusedVariables false
def t1v (e f g h k x : Int) : Int := (h + bits .xor .u32 (bits .xor .u32 (rotI e 6) (rotI e 11)) (rotI e 25) + bits .or .u32 (bits .and .u32 e f) (bits .and .u32 (bits .xor .u32 (if IntKind.u32.signed = true then -1 else IntKind.u32.max) e) g) + k + x) % 4294967296
def t2v (a b c : Int) : Int := (bits .xor .u32 (bits .xor .u32 (rotI a 2) (rotI a 13)) (rotI a 22) + bits .or .u32 (bits .or .u32 (bits .and .u32 a b) (bits .and .u32 a c)) (bits .and .u32 b c)) % 4294967296
def rstep : List Int → Int → Int → List Int
  | [a, b, c, d, e, f, g, h], k, x => [(t1v e f g h k x + t2v a b c) % 4294967296, a, b, c, (d + t1v e f g h k x) % 4294967296, e, f, g]
  | v, _, _ => v
def rnds (ks xs v : List Int) : Nat → List Int
  | 0 => v
  | k + 1 => rstep (rnds ks xs v k) (ks[k]?.getD 0) (xs[k]?.getD 0)
theorem rnds_step (ks xs v : List Int) (k : Nat) (h1 : k < ks.length) (h2 : k < xs.length) (a b c d e f g h : Int) (hr : rnds ks xs v k = [a, b, c, d, e, f, g, h]) :
    rnds ks xs v (k + 1) = [(t1v e f g h ks[k] xs[k] + t2v a b c) % 4294967296, a, b, c, (d + t1v e f g h ks[k] xs[k]) % 4294967296, e, f, g] := by
  simp only [rnds, hr, List.getElem?_eq_getElem h1, List.getElem?_eq_getElem h2, Option.getD_some, rstep]
theorem allW_step (a b c d e f g h x y : Int) (hw : allW [a, b, c, d, e, f, g, h]) : allW [x % 4294967296, a, b, c, y % 4294967296, e, f, g] := by
  intro z hz
  simp only [List.mem_cons, List.not_mem_nil, or_false] at hz
  rcases hz with rfl | rfl | rfl | rfl | rfl | rfl | rfl | rfl
  · exact wrap_W _
  · exact hw _ (by simp)
  · exact hw _ (by simp)
  · exact hw _ (by simp)
  · exact wrap_W _
  · exact hw _ (by simp)
  · exact hw _ (by simp)
  · exact hw _ (by simp)
def addw (hs vs : List Int) : Nat → List Int
  | 0 => hs
  | k + 1 => (addw hs vs k).set k (((addw hs vs k)[k]?.getD 0 + vs[k]?.getD 0) % 4294967296)
theorem addw_len (hs vs : List Int) (k : Nat) : (addw hs vs k).length = hs.length := by
  induction k with
  | zero => rfl
  | succ k ih => simp [addw, ih]
theorem addw_step (hs vs : List Int) (k : Nat) (h1 : k < vs.length) (y : Int) (hy : (addw hs vs k)[k]?.getD 0 = y) : addw hs vs (k + 1) = (addw hs vs k).set k ((y + vs[k]) % 4294967296) := by
  simp only [addw, List.getElem?_eq_getElem h1, Option.getD_some, hy]
def mixI (hs bs : List Int) : List Int := addw hs (rnds KT (sched bs) hs 64) 8
theorem KT_len : KT.length = 64 := rfl
/-- 'mix': the world: the words' box, the block's box, the result's cell -/
def M3 (w wx : World) (hs bs rs : List Int) : Prop := wx.heap[w.heap.size]? = some (.cells (ints .u32 hs) 101 (0, 0)) ∧ wx.heap[w.heap.size + 1]? = some (.cells (ints .u8 bs) 102 (0, 0)) ∧ wx.heap[w.heap.size + 1 + 1]? = some (.cells (ints .u32 rs) 101 (0, 0)) ∧ Below w.heap.size w wx
theorem M3.drewN {w wx : World} {hs bs rs : List Int} (h : M3 w wx hs bs rs) (n : Nat) : M3 w (wx.drewN n) hs bs rs := ⟨h.1, h.2.1, h.2.2.1, below_drewN h.2.2.2 n⟩
theorem M3.size {w wx : World} {hs bs rs : List Int} (h : M3 w wx hs bs rs) : w.heap.size + 1 + 1 < wx.heap.size := (Array.getElem?_eq_some_iff.1 h.2.2.1).1
theorem M3.below {w wx wy : World} {hs bs rs : List Int} (h : M3 w wx hs bs rs) (hb : Below wx.heap.size wx wy) : M3 w wy hs bs rs := by
  have hz := h.size
  exact ⟨(hb.block _ (by omega)).trans h.1, (hb.block _ (by omega)).trans h.2.1, (hb.block _ (by omega)).trans h.2.2.1, h.2.2.2.trans (hb.mono (by omega))⟩
theorem M3.setRow {w wx : World} {hs bs rs : List Int} (h : M3 w wx hs bs rs) (g : Nat) (hg : w.heap.size + 1 + 1 < g) (cs : Array Value) : M3 w (wx.setRow g cs) hs bs rs :=
  ⟨(heap_setRow _ _ _ _ (by omega)).trans h.1, (heap_setRow _ _ _ _ (by omega)).trans h.2.1, (heap_setRow _ _ _ _ (by omega)).trans h.2.2.1, below_setRow h.2.2.2 _ (by omega) _⟩
theorem M3.cell {w wx : World} {hs bs rs : List Int} (h : M3 w wx hs bs rs) (j : Nat) (hj : j < hs.length) : wx.cell? ⟨w.heap.size, j, none⟩ = some (.int .u32 (hs[j]?.getD 0)) := (cells_of _ _ _ _ _ h.1).1 j hj
theorem M3.frozen {w wx : World} {hs bs rs : List Int} (h : M3 w wx hs bs rs) (j : Nat) : wx.frozen? ⟨w.heap.size, j, none⟩ = false := (cells_of _ _ _ _ _ h.1).2 j
theorem M3.set {w wx : World} {hs bs rs : List Int} (h : M3 w wx hs bs rs) (j : Nat) (v : Int) : M3 w (wx.setCell ⟨w.heap.size, j, none⟩ (.int .u32 v)) (hs.set j v) bs rs :=
  ⟨setCell_ints _ _ _ _ _ _ _ h.1, by rw [Below.heap_setCell _ _ _ _ (by simp)]; exact h.2.1, by rw [Below.heap_setCell _ _ _ _ (by simp; omega)]; exact h.2.2.1, h.2.2.2.setCell (by simp) _⟩
set_option maxRecDepth 20000 in
set_option maxHeartbeats 400000 in
theorem mix_n (a0 b0 c0 d0 e0 f0 g0 h0 : Int) (bs : List Int) (w : World) (n m : Nat) (hn0 : n ≤ 64) (hn1 : 64 ≤ n) (hm0 : m ≤ 8) (hm1 : 8 ≤ m) (hw : allW [a0, b0, c0, d0, e0, f0, g0, h0]) (hl : bs.length = 64) :
    Calls Tryz.prog 87 #[.agg (ints .u32 [a0, b0, c0, d0, e0, f0, g0, h0]), .agg (ints .u8 bs)] w fun e w' => e = .returned (.agg (ints .u32 (addw [a0, b0, c0, d0, e0, f0, g0, h0] (rnds KT (sched bs) [a0, b0, c0, d0, e0, f0, g0, h0] n) m))) ∧ Below w.heap.size w w' := by
  go_enter Tryz.func87, Tryz.ntmps87
  go_wp2_with (first
    | refine wpList_alloc_eq rfl 101 rfl (ints .u32 Z8) Tryz.alloc101 ?_)
  have hM : M3 w (((w.alloc (.cells (ints .u32 [a0, b0, c0, d0, e0, f0, g0, h0]) 101)).alloc (.cells (ints .u8 bs) 102)).alloc (.cells (ints .u32 Z8) 101)) [a0, b0, c0, d0, e0, f0, g0, h0] bs Z8 :=
    ⟨al3_1 _ _ _ _, al3_2 _ _ _ _, al3_3 _ _ _ _, (((Below.refl _ _).alloc (Nat.le_refl _) _).alloc (by simp) _).alloc (by simp; omega) _⟩
  generalize (((w.alloc (.cells (ints .u32 [a0, b0, c0, d0, e0, f0, g0, h0]) 101)).alloc (.cells (ints .u8 bs) 102)).alloc (.cells (ints .u32 Z8) 101)) = w1 at *
  have q0 : w1.cell? ⟨w.heap.size, 0, none⟩ = some (.int .u32 a0) := hM.cell 0 (by simp)
  have q1 : w1.cell? ⟨w.heap.size, 1, none⟩ = some (.int .u32 b0) := hM.cell 1 (by simp)
  have q2 : w1.cell? ⟨w.heap.size, 2, none⟩ = some (.int .u32 c0) := hM.cell 2 (by simp)
  have q3 : w1.cell? ⟨w.heap.size, 3, none⟩ = some (.int .u32 d0) := hM.cell 3 (by simp)
  go_quiet (fail)
  go_wp2
  clear q0 q1 q2 q3
  have hM2 := hM.drewN nq
  clear hM
  generalize w1.drewN nq = w2 at *
  have q4 : w2.cell? ⟨w.heap.size, 4, none⟩ = some (.int .u32 e0) := hM2.cell 4 (by simp)
  have q5 : w2.cell? ⟨w.heap.size, 5, none⟩ = some (.int .u32 f0) := hM2.cell 5 (by simp)
  have q6 : w2.cell? ⟨w.heap.size, 6, none⟩ = some (.int .u32 g0) := hM2.cell 6 (by simp)
  have q7 : w2.cell? ⟨w.heap.size, 7, none⟩ = some (.int .u32 h0) := hM2.cell 7 (by simp)
  go_quiet (fail)
  go_wp2_with fail
  clear q4 q5 q6 q7
  have hM3 := hM2.drewN nq
  clear hM2
  generalize w2.drewN nq = w3 at *
  refine (roundTable_any _).mono ?_
  rintro e w4 ⟨rfl, hB4⟩
  have hM4 := hM3.below hB4
  clear hM3 hB4
  have hM5 : M3 w ((w4.alloc (.cells (ints .u32 Z64) 171)).setRow w4.heap.size (ints .u32 KT)) [a0, b0, c0, d0, e0, f0, g0, h0] bs Z8 := (hM4.below ((Below.refl _ _).alloc (Nat.le_refl _) _)).setRow _ hM4.size _
  have hK5 : ((w4.alloc (.cells (ints .u32 Z64) 171)).setRow w4.heap.size (ints .u32 KT)).heap[w4.heap.size]? = some (.cells (ints .u32 KT) 171 (0, 0)) := setRow_heap _ _ _ _ _ _ (al_new _ _)
  have hkb : w.heap.size + 1 + 1 < w4.heap.size := hM4.size
  go_wp2_with (first
    | refine wpList_alloc_eq rfl 171 rfl (ints .u32 Z64) Tryz.alloc171 ?_
    | refine wpList_store_row rfl 171 _ _ rfl w4.heap.size (ints .u32 KT) rfl rfl 171 (ints .u32 Z64) (al_new _ _) Tryz.info171 rfl (ints_one _ _) ?_
    | refine wpList_load_row rfl 102 _ rfl (w.heap.size + 1) rfl 102 (ints .u8 bs) (0,0) _ hM5.2.1 Tryz.underlying102 rfl (by rw [ints_size, hl]; exact Tryz.info102) ?_)
  generalize ((w4.alloc (.cells (ints .u32 Z64) 171)).setRow w4.heap.size (ints .u32 KT)) = w5 at *
  generalize w4.heap.size = kb at *
  clear hM4
  refine (spread_any _ _ hl).mono ?_
  rintro e w6 ⟨rfl, hB6⟩
  have hM6 := hM5.below hB6
  have hK6 := (hB6.block kb ((Array.getElem?_eq_some_iff.1 hK5).1)).trans hK5
  clear hM5 hK5 hB6
  have hsl := sched_len bs
  have hsw := sched_W bs
  generalize hss : sched bs = ss at *
  have Hss := hid hss
  clear hss
  have hkl := KT_len
  generalize hkt : KT = kt at *
  have Hkt := hid hkt
  clear hkt
  go_wp2
  go_loopw [5, 6, 7, 8, 9, 10, 11, 12, 39] (fun a b c d e f g h i wr => ∃ k : Nat, k ≤ 64 ∧ i = .int .i64 k ∧ ∃ A B C D E F G H : Int, a = .int .u32 A ∧ b = .int .u32 B ∧ c = .int .u32 C ∧ d = .int .u32 D ∧ e = .int .u32 E ∧ f = .int .u32 F ∧ g = .int .u32 G ∧ h = .int .u32 H ∧
      rnds kt ss [a0, b0, c0, d0, e0, f0, g0, h0] k = [A, B, C, D, E, F, G, H] ∧ allW [A, B, C, D, E, F, G, H] ∧ M3 w wr [a0, b0, c0, d0, e0, f0, g0, h0] bs Z8 ∧ wr.heap[kb]? = some (.cells (ints .u32 kt) 171 (0, 0))) (fun _ _ _ _ _ _ _ _ i _ => 64 - (intOf i).toNat)
  case atStart => exact ⟨0, by omega, rfl, _, _, _, _, _, _, _, _, rfl, rfl, rfl, rfl, rfl, rfl, rfl, rfl, rfl, hw, hM6, hK6⟩
  case round =>
    clear hM6 hK6
    obtain ⟨k, hk, rfl, A, B, C, D, E, F, G, H, rfl, rfl, rfl, rfl, rfl, rfl, rfl, rfl, hR, hW, hM, hK⟩ := hrel
    by_cases hlt : k < 64
    · have ix := Tryz.index171 ss k wr hsl hlt
      have kx := (cells_of _ _ _ _ _ hK).1 k (by omega)
      obtain ⟨hE, hE'⟩ := hW E (by simp)
      obtain ⟨hA, hA'⟩ := hW A (by simp)
      have HR := hid hR
      have HK := hid hK
      clear hR hK
      go_wp2
      go_quiet ((go_at_call 90; exact Calls.quiet_of_same (turn_any _ _ _ hE hE' (by omega) (by omega))))
      go_wp2_with (go_at_call 90; refine (turn_any _ _ _ hA hA' (by omega) (by omega)).mono ?_; rintro e w' ⟨rfl, rfl⟩)
      exact ⟨⟨k + 1, by omega, by go_num, _, _, _, _, _, _, _, _, rfl, rfl, rfl, rfl, rfl, rfl, rfl, rfl, rnds_step _ _ _ k (by omega) (by omega) _ _ _ _ _ _ _ _ HR.out, allW_step _ _ _ _ _ _ _ _ _ _ hW, hM.drewN nq, HK.out⟩, by simp [intOf]; omega⟩
    · obtain rfl : k = n := by omega
      clear hlt hk
      have HR := hid hR
      clear hR hK hW
      generalize hhs : [a0, b0, c0, d0, e0, f0, g0, h0] = hs at *
      have hhl : hs.length = 8 := by rw [← hhs]; rfl
      have Hhs := hid hhs
      clear hhs
      go_wp2_with (first
        | refine wpList_build_eq rfl 101 _ rfl (ints .u32 [A, B, C, D, E, F, G, H]) (by kernel_rfl) ?_)
      generalize hvs : [A, B, C, D, E, F, G, H] = vs at *
      have hvl : vs.length = 8 := by rw [← hvs]; rfl
      have Hvs := hid hvs
      clear hvs
      go_loopw [110] (fun i wx => ∃ j : Nat, j ≤ 8 ∧ i = .int .i64 j ∧ M3 w wx (addw hs vs j) bs Z8) (fun i _ => 8 - (intOf i).toNat)
      case atStart => exact ⟨0, by omega, rfl, hM⟩
      case round =>
        clear hM
        obtain ⟨j, hj, rfl, hM⟩ := hrel
        by_cases hlt : j < 8
        · have ix := Tryz.index101 vs j wr hvl hlt
          have hal := (addw_len hs vs j).trans hhl
          have st := fun y => hid (addw_step hs vs j (by omega) y)
          generalize addw hs vs j = ys at *
          have c0 := hM.cell j (by omega)
          have f0 := hM.frozen j
          generalize hy : ys[j]?.getD 0 = y at *
          have st := hid ((st y).out rfl)
          clear hy
          go_wp2
          exact ⟨⟨j + 1, by omega, by go_num, by rw [st.out]; exact hM.set _ _⟩, by simp [intOf]; omega⟩
        · obtain rfl : j = m := by omega
          clear hlt hj
          have hal := (addw_len hs vs j).trans hhl
          generalize hys : addw hs vs j = ys at *
          have Hys := hid hys
          clear hys
          go_wp2_with (first
            | refine wpList_load_row rfl 101 _ rfl w.heap.size rfl 101 (ints .u32 ys) (0,0) _ hM.1 Tryz.underlying101 rfl (by rw [ints_size, hal]; exact Tryz.info101) ?_
            | refine wpList_store_row rfl 101 _ _ rfl (w.heap.size + 1 + 1) (ints .u32 ys) rfl rfl 101 (ints .u32 Z8) hM.2.2.1 (by rw [ints_size, hal]; exact Tryz.info101) (by rw [ints_size, ints_size, hal]; rfl) (ints_one _ _) ?_)
          exact bodyPost_ret (results_cell_row (fn := Tryz.f87) Tryz.results87 _ _ (w.heap.size + 1 + 1) 101 (ints .u32 ys) (0,0) _ rfl (setRow_heap _ _ _ _ _ _ hM.2.2.1) Tryz.underlying101 rfl (by rw [ints_size, hal]; exact Tryz.info101)) rfl ⟨by rw [Hss.out, Hkt.out, Hhs.out, HR.out, Hys.out], below_setRow hM.2.2.2 _ (by omega) _⟩
/-- 'mix': what one block makes of the words -/
theorem mix_any (hs bs : List Int) (w : World) (hh : hs.length = 8) (hw : allW hs) (hl : bs.length = 64) :
    Calls Tryz.prog 87 #[.agg (ints .u32 hs), .agg (ints .u8 bs)] w fun e w' => e = .returned (.agg (ints .u32 (mixI hs bs))) ∧ Below w.heap.size w w' := by
  match hs, hh with
  | [a, b, c, d, e, f, g, h], _ => exact mix_n a b c d e f g h bs w 64 8 (by omega) (by omega) (by omega) (by omega) hw hl
end Go.Proofs.YtbifmhbkmnofiaaGreat
namespace Go.Proofs.YtbifmhbkmnofiaaGreat
open Go.RowKit
set_option linter.unusedVariables false
theorem addw_W (hs vs : List Int) (h : allW hs) (k : Nat) : allW (addw hs vs k) := by
  induction k with
  | zero => exact h
  | succ k ih => exact allW_set _ ih _ _ (wrap_W _)
theorem mixI_len (hs bs : List Int) : (mixI hs bs).length = hs.length := addw_len _ _ _
theorem mixI_W (hs bs : List Int) (h : allW hs) : allW (mixI hs bs) := addw_W _ _ h _
theorem HT_len : HT.length = 8 := rfl
theorem HT_W : allW HT := by
  intro x hx
  have : ∀ y ∈ HT, 0 ≤ y ∧ y ≤ 4294967295 := by decide +kernel
  exact this x hx
def tb (hs : List Int) (i : Nat) : Int := hs[i / 4]?.getD 0 / 2 ^ (24 - 8 * (i % 4)) % 256
def toB (hs : List Int) : Nat → List Int
  | 0 => Z32
  | k + 1 => (toB hs k).set k (tb hs k)
theorem toB_len (hs : List Int) (k : Nat) : (toB hs k).length = 32 := by
  induction k with
  | zero => rfl
  | succ k ih => simp [toB, ih]
/-- three blocks of the call's own -/
def B3 (w wx : World) (o1 o2 o3 : Obj) : Prop := wx.heap[w.heap.size]? = some o1 ∧ wx.heap[w.heap.size + 1]? = some o2 ∧ wx.heap[w.heap.size + 1 + 1]? = some o3 ∧ Below w.heap.size w wx
theorem B3.set {w wx : World} {o1 o2 : Obj} {k : IntKind} {xs : List Int} {t : TypeId} (h : B3 w wx o1 o2 (.cells (ints k xs) t (0, 0))) (j : Nat) (v : Int) : B3 w (wx.setCell ⟨w.heap.size + 1 + 1, j, none⟩ (.int k v)) o1 o2 (.cells (ints k (xs.set j v)) t (0, 0)) :=
  ⟨by rw [Below.heap_setCell _ _ _ _ (by simp; omega)]; exact h.1, by rw [Below.heap_setCell _ _ _ _ (by simp)]; exact h.2.1, setCell_ints _ _ _ _ _ _ _ h.2.2.1, h.2.2.2.setCell (by simp; omega) _⟩
theorem B3.new (w : World) (o1 o2 o3 : Obj) : B3 w (((w.alloc o1).alloc o2).alloc o3) o1 o2 o3 := ⟨al3_1 _ _ _ _, al3_2 _ _ _ _, al3_3 _ _ _ _, (((Below.refl _ _).alloc (Nat.le_refl _) _).alloc (by simp) _).alloc (by simp; omega) _⟩
set_option maxRecDepth 20000 in
set_option maxHeartbeats 400000 in
theorem toBytes_n (hs : List Int) (w : World) (n : Nat) (hn0 : n ≤ 32) (hn1 : 32 ≤ n) (hl : hs.length = 8) (hw : allW hs) :
    Calls Tryz.prog 79 #[.agg (ints .u32 hs)] w fun e w' => e = .returned (.agg (ints .u8 (toB hs n))) ∧ Below w.heap.size w w' := by
  go_enter Tryz.func79, Tryz.ntmps79
  go_wp2_with (first
    | refine wpList_alloc_eq rfl 96 rfl (ints .u8 Z32) Tryz.alloc96 ?_)
  have hM := B3.new w (.cells (ints .u32 hs) 101) (.cells (ints .u8 Z32) 96) (.cells (ints .u8 Z32) 96)
  generalize (((w.alloc (.cells (ints .u32 hs) 101)).alloc (.cells (ints .u8 Z32) 96)).alloc (.cells (ints .u8 Z32) 96)) = w1 at *
  go_loopw [5] (fun i wr => ∃ k : Nat, k ≤ 32 ∧ i = .int .i64 k ∧ B3 w wr (.cells (ints .u32 hs) 101) (.cells (ints .u8 Z32) 96) (.cells (ints .u8 (toB hs k)) 96)) (fun i _ => 32 - (intOf i).toNat)
  case atStart => exact ⟨0, by omega, rfl, hM⟩
  case round =>
    clear hM
    obtain ⟨k, hk, rfl, hM⟩ := hrel
    by_cases hlt : k < 32
    · have c1 := (cells_of _ _ _ _ _ hM.1).1 (k / 4) (by omega)
      have c0 := (cells_of _ _ _ _ _ hM.2.2.1).1 k (by rw [toB_len]; exact hlt)
      have f0 := (cells_of _ _ _ _ _ hM.2.2.1).2 k
      have st : Hd (toB hs (k + 1) = (toB hs k).set k (tb hs k)) := hid rfl
      generalize toB hs k = ys at *
      obtain ⟨hx, hx'⟩ := allW_get _ hw (k / 4)
      generalize hy : hs[k / 4]?.getD 0 = y at *
      have Hy := hid hy
      clear hy
      go_wp2
      refine ⟨⟨k + 1, by omega, by go_num, ?_⟩, by simp [intOf]; omega⟩
      rw [st.out, tb, Hy.out]
      exact hM.set _ _
    · obtain rfl : k = n := by omega
      clear hlt hk
      have hal := toB_len hs k
      generalize hys : toB hs k = ys at *
      have Hys := hid hys
      clear hys
      go_wp2_with (first
        | refine wpList_load_row rfl 96 _ rfl (w.heap.size + 1 + 1) rfl 96 (ints .u8 ys) (0,0) _ hM.2.2.1 Tryz.underlying96 rfl (by rw [ints_size, hal]; exact Tryz.info96) ?_
        | refine wpList_store_row rfl 96 _ _ rfl (w.heap.size + 1) (ints .u8 ys) rfl rfl 96 (ints .u8 Z32) hM.2.1 (by rw [ints_size, hal]; exact Tryz.info96) (by rw [ints_size, ints_size, hal]; rfl) (ints_one _ _) ?_)
      exact bodyPost_ret (results_cell_row (fn := Tryz.f79) Tryz.results79 _ _ (w.heap.size + 1) 96 (ints .u8 ys) (0,0) _ rfl (setRow_heap _ _ _ _ _ _ hM.2.1) Tryz.underlying96 rfl (by rw [ints_size, hal]; exact Tryz.info96)) rfl ⟨by rw [Hys.out], below_setRow hM.2.2.2 _ (by omega) _⟩
theorem toBytes_any (hs : List Int) (w : World) (hl : hs.length = 8) (hw : allW hs) :
    Calls Tryz.prog 79 #[.agg (ints .u32 hs)] w fun e w' => e = .returned (.agg (ints .u8 (toB hs 32))) ∧ Below w.heap.size w w' := toBytes_n hs w 32 (by omega) (by omega) hl hw
end Go.Proofs.YtbifmhbkmnofiaaGreat
