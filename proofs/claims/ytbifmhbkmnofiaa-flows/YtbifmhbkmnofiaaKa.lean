import Derived.Test.YtbifmhbkmnofiaaGn
import Derived.Test.YtbifmhbkmnofiaaDp
namespace Go.Proofs.Ytbifmhbkmnofiaa
open Go.RowKit
set_option linter.unusedVariables false
set_option linter.unusedSimpArgs false
set_option maxHeartbeats 1000000 in
theorem read_arg (n : Int) (x : ByteArray) (A : Nat) (w : World) (h : n < 0 ∨ 200 < n ∨ 64 < x.size) (hx : x.size ≤ 9223372036854775807) :
    Calls Try.prog 23 #[.pointer (some ⟨A, 0, none⟩), .int .i64 n, .string x] w fun en w' => en = .returned (.tuple #[.slice none 0 0, .int .i64 2]) ∧ w' = w := by
  have hm := mayR_no h
  go_enter Try.func23, Try.ntmps23
  go_wp2_with fail
  refine (mayRead_any n x _ hx).mono ?_
  rintro en w0 ⟨rfl, rfl⟩
  rw [hm]
  go_wp2
  go_ret2
  exact ⟨rfl, rfl⟩
set_option maxHeartbeats 1000000 in
theorem read_over (f : Fnt) (n : Nat) (x : ByteArray) (A B : Nat) (w : World) (hF : FtAt w A B f) (hx : x.size ≤ 64) (hn : n ≤ 200) (hr : 8 < f.r) :
    Calls Try.prog 23 #[.pointer (some ⟨A, 0, none⟩), .int .i64 n, .string x] w fun en w' => en = .returned (.tuple #[.slice none 0 0, .int .i64 3]) ∧ w' = w := by
  have hm := mayR_yes (n := (n : Int)) (x := x) (by omega) (by omega) hx
  have HF := hid hF
  clear hF
  go_enter Try.func23, Try.ntmps23
  go_wp2_with fail
  refine (mayRead_any (n : Int) x _ (by omega)).mono ?_
  rintro en w0 ⟨rfl, rfl⟩
  rw [hm]
  go_wp2_with fail
  refine (spent_any _ A B _ HF.out).mono ?_
  rintro en w0 ⟨rfl, rfl⟩
  rw [decide_eq_true hr]
  go_wp2
  go_ret2
  exact ⟨rfl, rfl⟩
theorem read_any (f : Fnt) (n : Nat) (x : ByteArray) (A B : Nat) (w : World) (hF : FtAt w A B f) (hx : x.size ≤ 64) (hn : n ≤ 200) (hr : f.r ≤ 8) :
    Calls Try.prog 23 #[.pointer (some ⟨A, 0, none⟩), .int .i64 n, .string x] w fun en w' => ∃ gb, en = .returned (.tuple #[.slice (some ⟨gb, 0, none⟩) n n, .int .i64 0]) ∧ w.heap.size ≤ gb ∧ w'.heap[gb]? = some (.cells (ints .u8 (bytesF f.g n (bts x))) 5 (0, 0)) ∧ FtAt w' A B ⟨behindF f.g f.r n (bts x), f.r + 1⟩ ∧ Ex2 A B w w' := by
  obtain ⟨g, r⟩ := f
  cases g with
  | m g => exact read_m g r n x A B w hF hx hn hr
  | s g => exact read_s g r n x A B w hF hx hn hr
theorem reseed_any (f : Fnt) (e x : ByteArray) (A B : Nat) (w : World) (hF : FtAt w A B f) (he : may e = true) (hx : x.size ≤ 64) :
    Calls Try.prog 36 #[.pointer (some ⟨A, 0, none⟩), .string e, .string x] w fun en w' => en = .returned (.int .i64 0) ∧ FtAt w' A B ⟨reseedOf f.g (bts e ++ bts x), 1⟩ ∧ Ex2 A B w w' := by
  obtain ⟨g, r⟩ := f
  cases g with
  | m g => exact reseed_m g r e x A B w hF he hx
  | s g => exact reseed_s g r e x A B w hF he hx
theorem new_any (k : Int) (e n m : ByteArray) (w : World) (hk : k = 1 ∨ k = 2) (he : may e = true) (hn : n.size ≤ 64) (hm : m.size ≤ 64) :
    Calls Try.prog 20 #[.int .i64 k, .string e, .string n, .string m] w fun en w' => ∃ A B, en = .returned (.tuple #[.pointer (some ⟨A, 0, none⟩), .int .i64 0]) ∧ w.heap.size ≤ A ∧ w.heap.size ≤ B ∧ FtAt w' A B ⟨seedOf k (bts e ++ bts n ++ bts m), 1⟩ ∧ Below w.heap.size w w' := by
  rcases hk with rfl | rfl
  · exact new_m e n m w he hn hm
  · exact new_s e n m w he hn hm
theorem FtAt.drew {w : World} {A B : Nat} {f : Fnt} (h : FtAt w A B f) : FtAt w.drew A B f := h.other rfl rfl
def dgts : ByteArray := ⟨#[48, 49, 50, 51, 52, 53, 54, 55, 56, 57, 97, 98, 99, 100, 101, 102]⟩
theorem dgts_size : dgts.size = 16 := rfl
def seedS (s : ByteArray) : ByteArray := cut (s ++ dgts) 64
theorem cut_sz (s : ByteArray) (n : Nat) : (cut s n).size = Nat.min s.size n := by
  unfold cut
  split
  · rw [ByteArray.size_extract]
    have : Nat.min s.size n = min s.size n := rfl
    omega
  · have : Nat.min s.size n = min s.size n := rfl
    omega
theorem seedS_may (s : ByteArray) : may (seedS s) = true := by
  unfold may seedS
  rw [cut_sz, ByteArray.size_append, dgts_size]
  have : Nat.min (s.size + 16) 64 = min (s.size + 16) 64 := rfl
  exact decide_eq_true (by omega)
set_option maxHeartbeats 400000 in
theorem seed_any (s : ByteArray) (w : World) (hs : s.size ≤ 9223372036854775000) :
    Calls Try.prog 21 #[.string s] w fun e w' => e = .returned (.string (seedS s)) ∧ w' = w := by
  have hz : (s ++ dgts).size ≤ 9223372036854775807 := by rw [ByteArray.size_append, dgts_size]; omega
  have he := hid (show seedS s = cut (s ++ dgts) 64 from rfl)
  go_enter Try.func21, Try.ntmps21
  go_wp2_with fail
  change Calls Try.prog 15 #[.string (s ++ dgts), _] _ _
  refine (short_any (s ++ dgts) 64 _ (by omega) hz).mono ?_
  rintro e w1 ⟨rfl, rfl⟩
  go_wp2
  go_ret
  exact ⟨by rw [he.out]; rfl, rfl⟩
/-- what a source does at a step, and what it answers -/
def drawnF (f : Fnt) (k n : Int) (s t : ByteArray) : Fnt × ByteArray × Int :=
  if 5 < pickI k 8 then (⟨reseedOf f.g (bts (seedS s) ++ bts (cut t 64)), 1⟩, ⟨#[]⟩, 0)
  else if f.r ≤ 8 then (⟨behindF f.g f.r (pickI n 201).toNat (bts (cut s 64)), f.r + 1⟩, toS (bytesF f.g (pickI n 201).toNat (bts (cut s 64))), 0)
  else (f, ⟨#[]⟩, 3)
theorem cut64 (s : ByteArray) : (cut s 64).size ≤ 64 := by
  rw [cut_sz]; exact Nat.min_le_right _ _

set_option maxRecDepth 20000 in
set_option maxHeartbeats 1000000 in
theorem drawn_reseed (f : Fnt) (k n : Int) (s t : ByteArray) (A B : Nat) (w : World) (hF : FtAt w A B f) (hk0 : -9223372036854775808 ≤ k) (hk1 : k ≤ 9223372036854775807) (hn0 : -9223372036854775808 ≤ n) (hn1 : n ≤ 9223372036854775807) (hs : s.size ≤ 9223372036854775000) (ht : t.size ≤ 9223372036854775000) (hp : 5 < pickI k 8) :
    Calls Try.prog 22 #[.pointer (some ⟨A, 0, none⟩), .agg #[.int .i64 k, .int .i64 n, .string s, .string t]] w fun en w' => en = .returned (.tuple #[.string (drawnF f k n s t).2.1, .int .i64 (drawnF f k n s t).2.2]) ∧ FtAt w' A B (drawnF f k n s t).1 ∧ Ex2 A B w w' := by
  have hd := hid (show drawnF f k n s t = (⟨reseedOf f.g (bts (seedS s) ++ bts (cut t 64)), 1⟩, ⟨#[]⟩, 0) from by unfold drawnF; rw [if_pos hp])
  have hB1 : Below w.heap.size w (w.alloc (.cells #[.int .i64 k, .int .i64 n, .string s, .string t] 45)) := (Below.refl _ _).alloc (Nat.le_refl _) _
  have hb1 := al_new w (.cells #[.int .i64 k, .int .i64 n, .string s, .string t] 45)
  have hF1 := hF.below hB1
  have hlA := hF.lt
  have hlB := hF.gen.lt
  have c0 := cell_of_row _ _ 0 _ _ _ hb1
  have c1 := cell_of_row _ _ 1 _ _ _ hb1
  have c2 := cell_of_row _ _ 2 _ _ _ hb1
  have c3 := cell_of_row _ _ 3 _ _ _ hb1
  simp only [List.getElem?_toArray, List.getElem?_cons_zero, List.getElem?_cons_succ] at c0 c1 c2 c3
  have HF1 := hid hF1
  have HB1 := hid hB1
  have hz1 := al_size w (.cells #[.int .i64 k, .int .i64 n, .string s, .string t] 45)
  clear hF1 hF hb1 hB1
  go_enter Try.func22, Try.ntmps22
  go_wp2_with fail
  generalize (w.alloc (.cells #[.int .i64 k, .int .i64 n, .string s, .string t] 45)) = w1 at *
  refine (pick_any k 8 _ hk0 hk1 (by omega) (by omega)).mono ?_
  rintro e w1' ⟨rfl, rfl⟩
  generalize pickI k 8 = p at *
  go_wp2_with fail
  refine wp_region_held_drew (S := fun w' => w'.cell? ⟨w.heap.size, 2, none⟩ = some (.string s) ∧ w'.cell? ⟨w.heap.size, 3, none⟩ = some (.string t)) (by kernel_rfl) ⟨c2, c3⟩ (fun hSw => ?_)
  refine wpAnyH_take (i := 0) (v := ?_) rfl (by decide +kernel) (by decide +kernel) (by decide +kernel) (fun _ _ _ h => h) (Or.inl ⟨by rfl, ?_⟩) hSw ?_
  rotate_left
  · intro w hw; go_simp; try with_reducible rfl
  simp only [Act.put, List.getElem_toArray, List.getElem_cons_zero, List.getElem_cons_succ, List.setIfInBounds_toArray, List.set_cons_zero, List.set_cons_succ]
  refine wpAnyH_take (i := 1) (v := ?_) rfl (by decide +kernel) (by decide +kernel) (by decide +kernel) (fun _ _ _ h => h) (Or.inl ⟨by rfl, ?_⟩) hSw ?_
  rotate_left
  · intro w hw; go_simp; try with_reducible rfl
  simp only [Act.put, List.getElem_toArray, List.getElem_cons_zero, List.getElem_cons_succ, List.setIfInBounds_toArray, List.set_cons_zero, List.set_cons_succ]
  refine wpAnyH_take (i := 2) (v := ?_) rfl (by decide +kernel) (by decide +kernel) (by decide +kernel) (fun _ _ _ h => h) (Or.inl ⟨by rfl, ?_⟩) hSw ?_
  rotate_left
  · intro w hw; have hcell := hw.1; clear hw; go_simp; try with_reducible rfl
  simp only [Act.put, List.getElem_toArray, List.getElem_cons_zero, List.getElem_cons_succ, List.setIfInBounds_toArray, List.set_cons_zero, List.set_cons_succ]
  refine wpAnyH_take (i := 4) (v := ?_) rfl (by decide +kernel) (by decide +kernel) (by decide +kernel) (fun _ _ _ h => h) (Or.inl ⟨by rfl, ?_⟩) hSw ?_
  rotate_left
  · intro w hw; go_simp; try with_reducible rfl
  simp only [Act.put, List.getElem_toArray, List.getElem_cons_zero, List.getElem_cons_succ, List.setIfInBounds_toArray, List.set_cons_zero, List.set_cons_succ]
  refine wpAnyH_take (i := 5) (v := ?_) rfl (by decide +kernel) (by decide +kernel) (by decide +kernel) (fun _ _ _ h => h) (Or.inl ⟨by rfl, ?_⟩) hSw ?_
  rotate_left
  · intro w hw; have hcell := hw.2; clear hw; go_simp; try with_reducible rfl
  simp only [Act.put, List.getElem_toArray, List.getElem_cons_zero, List.getElem_cons_succ, List.setIfInBounds_toArray, List.set_cons_zero, List.set_cons_succ]

  refine wpAnyH_ready (rs := [3]) (by kernel_rfl) (by simp) ?_
  refine AllReadyH.cons rfl (fun K hK => ?_) AllReadyH.nil
  · go_simp
    refine (seed_any s _ hs).mono ?_
    rintro e w3 ⟨rfl, rfl⟩
    refine hK.out _ _ hSw (fun hSw => ?_)
    clear hK K
    refine wpAnyH_ready (rs := [6]) (by kernel_rfl) (by simp) ?_
    refine AllReadyH.cons rfl (fun K hK => ?_) AllReadyH.nil
    go_simp
    refine (short_any t 64 _ (by omega) (by omega)).mono ?_
    rintro e w3 ⟨rfl, rfl⟩
    refine hK.out _ _ hSw (fun hSw => ?_)
    clear hK K
    refine wpAnyH_ready (rs := [7]) (by kernel_rfl) (by simp) ?_
    refine AllReadyH.cons rfl (fun K hK => ?_) AllReadyH.nil
    go_simp
    refine (reseed_any f (seedS s) (cut t 64) A B w1'.drew HF1.out.drew (seedS_may s) (cut64 t)).mono ?_
    rintro e w4 ⟨rfl, hF4, hE4⟩
    have hlt1 := HF1.out.lt
    have hlt2 := HF1.out.gen.lt
    have hSw4 : w4.cell? ⟨w.heap.size, 2, none⟩ = some (.string s) ∧ w4.cell? ⟨w.heap.size, 3, none⟩ = some (.string t) := by
      have hbk := hE4.block w.heap.size (by simp only [World.drew]; omega) (by omega) (by omega)
      refine ⟨?_, ?_⟩
      · unfold World.cell?; rw [hbk]; exact hSw.1
      · unfold World.cell?; rw [hbk]; exact hSw.2
    refine hK.out _ _ hSw4 (fun _ => ?_)
    clear hK K
    refine wpAnyH_take (i := 8) (v := ?_) rfl (by decide +kernel) (by decide +kernel) (by decide +kernel) (fun _ _ _ h => h) (Or.inl ⟨by rfl, ?_⟩) hSw4 ?_
    rotate_left
    · intro w hw; go_simp; try with_reducible rfl
    simp only [Act.put, List.getElem_toArray, List.getElem_cons_zero, List.getElem_cons_succ, List.setIfInBounds_toArray, List.set_cons_zero, List.set_cons_succ]
    refine wpAnyH_done (by kernel_rfl) ?_ _
    have HF4 := hid hF4
    have HE4 := hid ((Ex2.of_below HB1.out).drew.trans hE4)
    clear hF4 hE4
    go_wp2
    go_ret2
    rw [hd.out]
    exact ⟨rfl, HF4.out, HE4.out⟩

set_option maxRecDepth 20000 in
set_option maxHeartbeats 1000000 in
theorem drawn_read (f : Fnt) (k n : Int) (s t : ByteArray) (A B : Nat) (w : World) (hF : FtAt w A B f) (hk0 : -9223372036854775808 ≤ k) (hk1 : k ≤ 9223372036854775807) (hn0 : -9223372036854775808 ≤ n) (hn1 : n ≤ 9223372036854775807) (hs : s.size ≤ 9223372036854775000) (ht : t.size ≤ 9223372036854775000) (hp : ¬ 5 < pickI k 8 ∧ f.r ≤ 8) :
    Calls Try.prog 22 #[.pointer (some ⟨A, 0, none⟩), .agg #[.int .i64 k, .int .i64 n, .string s, .string t]] w fun en w' => en = .returned (.tuple #[.string (drawnF f k n s t).2.1, .int .i64 (drawnF f k n s t).2.2]) ∧ FtAt w' A B (drawnF f k n s t).1 ∧ Ex2 A B w w' := by
  have hd := hid (show drawnF f k n s t = (⟨behindF f.g f.r (pickI n 201).toNat (bts (cut s 64)), f.r + 1⟩, toS (bytesF f.g (pickI n 201).toNat (bts (cut s 64))), 0) from by unfold drawnF; rw [if_neg hp.1, if_pos hp.2])
  have hB1 : Below w.heap.size w (w.alloc (.cells #[.int .i64 k, .int .i64 n, .string s, .string t] 45)) := (Below.refl _ _).alloc (Nat.le_refl _) _
  have hb1 := al_new w (.cells #[.int .i64 k, .int .i64 n, .string s, .string t] 45)
  have hF1 := hF.below hB1
  have hlA := hF.lt
  have hlB := hF.gen.lt
  have c0 := cell_of_row _ _ 0 _ _ _ hb1
  have c1 := cell_of_row _ _ 1 _ _ _ hb1
  have c2 := cell_of_row _ _ 2 _ _ _ hb1
  have c3 := cell_of_row _ _ 3 _ _ _ hb1
  simp only [List.getElem?_toArray, List.getElem?_cons_zero, List.getElem?_cons_succ] at c0 c1 c2 c3
  have HF1 := hid hF1
  have HB1 := hid hB1
  have hz1 := al_size w (.cells #[.int .i64 k, .int .i64 n, .string s, .string t] 45)
  clear hF1 hF hb1 hB1
  go_enter Try.func22, Try.ntmps22
  go_wp2_with fail
  generalize (w.alloc (.cells #[.int .i64 k, .int .i64 n, .string s, .string t] 45)) = w1 at *
  refine (pick_any k 8 _ hk0 hk1 (by omega) (by omega)).mono ?_
  rintro e w1' ⟨rfl, rfl⟩
  have hp1 := hp.1
  have hpr := hp.2
  clear hp
  generalize pickI k 8 = p at *
  go_wp2_with fail
  refine wp_region_held_drew (S := fun w' => w'.cell? ⟨w.heap.size, 1, none⟩ = some (.int .i64 n) ∧ w'.cell? ⟨w.heap.size, 2, none⟩ = some (.string s)) (by kernel_rfl) ⟨c1, c2⟩ (fun hSw => ?_)
  refine wpAnyH_take (i := 0) (v := ?_) rfl (by decide +kernel) (by decide +kernel) (by decide +kernel) (fun _ _ _ h => h) (Or.inl ⟨by rfl, ?_⟩) hSw ?_
  rotate_left
  · intro w hw; go_simp; try with_reducible rfl
  simp only [Act.put, List.getElem_toArray, List.getElem_cons_zero, List.getElem_cons_succ, List.setIfInBounds_toArray, List.set_cons_zero, List.set_cons_succ]
  refine wpAnyH_take (i := 1) (v := ?_) rfl (by decide +kernel) (by decide +kernel) (by decide +kernel) (fun _ _ _ h => h) (Or.inl ⟨by rfl, ?_⟩) hSw ?_
  rotate_left
  · intro w hw; go_simp; try with_reducible rfl
  simp only [Act.put, List.getElem_toArray, List.getElem_cons_zero, List.getElem_cons_succ, List.setIfInBounds_toArray, List.set_cons_zero, List.set_cons_succ]
  refine wpAnyH_take (i := 2) (v := ?_) rfl (by decide +kernel) (by decide +kernel) (by decide +kernel) (fun _ _ _ h => h) (Or.inl ⟨by rfl, ?_⟩) hSw ?_
  rotate_left
  · intro w hw; have hcell := hw.1; clear hw; go_simp; try with_reducible rfl
  simp only [Act.put, List.getElem_toArray, List.getElem_cons_zero, List.getElem_cons_succ, List.setIfInBounds_toArray, List.set_cons_zero, List.set_cons_succ]
  refine wpAnyH_take (i := 4) (v := ?_) rfl (by decide +kernel) (by decide +kernel) (by decide +kernel) (fun _ _ _ h => h) (Or.inl ⟨by rfl, ?_⟩) hSw ?_
  rotate_left
  · intro w hw; go_simp; try with_reducible rfl
  simp only [Act.put, List.getElem_toArray, List.getElem_cons_zero, List.getElem_cons_succ, List.setIfInBounds_toArray, List.set_cons_zero, List.set_cons_succ]
  refine wpAnyH_take (i := 5) (v := ?_) rfl (by decide +kernel) (by decide +kernel) (by decide +kernel) (fun _ _ _ h => h) (Or.inl ⟨by rfl, ?_⟩) hSw ?_
  rotate_left
  · intro w hw; have hcell := hw.2; clear hw; go_simp; try with_reducible rfl
  simp only [Act.put, List.getElem_toArray, List.getElem_cons_zero, List.getElem_cons_succ, List.setIfInBounds_toArray, List.set_cons_zero, List.set_cons_succ]
  refine wpAnyH_ready (rs := [3]) (by kernel_rfl) (by simp) ?_
  refine AllReadyH.cons rfl (fun K hK => ?_) AllReadyH.nil
  · go_simp
    have hpb := pickI_bd n 201 (by omega)
    refine (pick_any n 201 _ hn0 hn1 (by omega) (by omega)).mono ?_
    rintro e w3 ⟨rfl, rfl⟩
    refine hK.out _ _ hSw (fun hSw => ?_)
    clear hK K
    obtain ⟨m, hm⟩ := Int.eq_ofNat_of_zero_le hpb.1
    rw [hm] at hd hpb ⊢
    rw [Int.toNat_natCast] at hd
    have hm2 : m ≤ 200 := by omega
    clear hpb hm
    refine wpAnyH_ready (rs := [6]) (by kernel_rfl) (by simp) ?_
    refine AllReadyH.cons rfl (fun K hK => ?_) AllReadyH.nil
    go_simp
    refine (short_any s 64 _ (by omega) (by omega)).mono ?_
    rintro e w3 ⟨rfl, rfl⟩
    refine hK.out _ _ hSw (fun hSw => ?_)
    clear hK K
    refine wpAnyH_ready (rs := [7]) (by kernel_rfl) (by simp) ?_
    refine AllReadyH.cons rfl (fun K hK => ?_) AllReadyH.nil
    go_simp
    have hbl := bytesF_len HF1.out.ok m (bts (cut s 64))
    refine (read_any f m (cut s 64) A B w1'.drew HF1.out.drew (cut64 s) hm2 hpr).mono ?_
    rintro e w4 ⟨gb, rfl, hgb, hr4, hF4, hE4⟩
    have hlt1 := HF1.out.lt
    have hlt2 := HF1.out.gen.lt
    have hSw4 : w4.cell? ⟨w.heap.size, 1, none⟩ = some (.int .i64 n) ∧ w4.cell? ⟨w.heap.size, 2, none⟩ = some (.string s) := by
      have hbk := hE4.block w.heap.size (by simp only [World.drew]; omega) (by omega) (by omega)
      refine ⟨?_, ?_⟩
      · unfold World.cell?; rw [hbk]; exact hSw.1
      · unfold World.cell?; rw [hbk]; exact hSw.2
    refine hK.out _ _ hSw4 (fun _ => ?_)
    clear hK K
    refine wpAnyH_take (i := 8) (v := ?_) rfl (by decide +kernel) (by decide +kernel) (by decide +kernel) (fun _ _ _ h => h) (Or.inl ⟨by rfl, ?_⟩) hSw4 ?_
    rotate_left
    · intro w hw; go_simp; try with_reducible rfl
    simp only [Act.put, List.getElem_toArray, List.getElem_cons_zero, List.getElem_cons_succ, List.setIfInBounds_toArray, List.set_cons_zero, List.set_cons_succ]
    refine wpAnyH_take (i := 9) (v := ?_) rfl (by decide +kernel) (by decide +kernel) (by decide +kernel) (fun _ _ _ h => h) (Or.inl ⟨by rfl, ?_⟩) hSw4 ?_
    rotate_left
    · intro w hw; go_simp; try with_reducible rfl
    simp only [Act.put, List.getElem_toArray, List.getElem_cons_zero, List.getElem_cons_succ, List.setIfInBounds_toArray, List.set_cons_zero, List.set_cons_succ]
    refine wpAnyH_take (i := 10) (v := ?_) rfl (by decide +kernel) (by decide +kernel) (by decide +kernel) (fun _ _ _ h => h) (Or.inl ⟨by rfl, ?_⟩) hSw4 ?_
    rotate_left
    · intro w hw; go_simp; try with_reducible rfl
    simp only [Act.put, List.getElem_toArray, List.getElem_cons_zero, List.getElem_cons_succ, List.setIfInBounds_toArray, List.set_cons_zero, List.set_cons_succ]
    refine wpAnyH_take (i := 11) (v := ?_) rfl (by decide +kernel) (by decide +kernel) (by decide +kernel) (fun _ _ _ h => h) (Or.inl ⟨by rfl, ?_⟩) hSw4 ?_
    rotate_left
    · intro w hw; go_simp; try with_reducible rfl
    simp only [Act.put, List.getElem_toArray, List.getElem_cons_zero, List.getElem_cons_succ, List.setIfInBounds_toArray, List.set_cons_zero, List.set_cons_succ]
    refine wpAnyH_take (i := 12) (v := ?_) rfl (by decide +kernel) (by decide +kernel) (by decide +kernel) (fun _ _ _ h => h) (Or.inl ⟨by rfl, ?_⟩) hSw4 ?_
    rotate_left
    · intro w hw; go_simp; try with_reducible rfl
    simp only [Act.put, List.getElem_toArray, List.getElem_cons_zero, List.getElem_cons_succ, List.setIfInBounds_toArray, List.set_cons_zero, List.set_cons_succ]
    refine wpAnyH_done (by kernel_rfl) ?_ _
    have HF4 := hid hF4
    have HE4 := hid ((Ex2.of_below HB1.out).drew.trans hE4)
    have hyb : Byt w4 (.slice (some ⟨gb, 0, none⟩) m m) (bytesF f.g m (bts (cut s 64))) := by have := byt_block hr4 m; rw [hbl] at this; exact this
    have Hyb := hid hyb
    clear hF4 hE4 hr4 hyb
    go_wp2_with (refine wpList_str rfl _ rfl _ _ rfl Hyb.out ?_)
    go_ret2
    rw [hd.out]
    exact ⟨rfl, HF4.out, HE4.out⟩

set_option maxRecDepth 20000 in
set_option maxHeartbeats 1000000 in
theorem drawn_over (f : Fnt) (k n : Int) (s t : ByteArray) (A B : Nat) (w : World) (hF : FtAt w A B f) (hk0 : -9223372036854775808 ≤ k) (hk1 : k ≤ 9223372036854775807) (hn0 : -9223372036854775808 ≤ n) (hn1 : n ≤ 9223372036854775807) (hs : s.size ≤ 9223372036854775000) (ht : t.size ≤ 9223372036854775000) (hp : ¬ 5 < pickI k 8 ∧ 8 < f.r) :
    Calls Try.prog 22 #[.pointer (some ⟨A, 0, none⟩), .agg #[.int .i64 k, .int .i64 n, .string s, .string t]] w fun en w' => en = .returned (.tuple #[.string (drawnF f k n s t).2.1, .int .i64 (drawnF f k n s t).2.2]) ∧ FtAt w' A B (drawnF f k n s t).1 ∧ Ex2 A B w w' := by
  have hd := hid (show drawnF f k n s t = (f, ⟨#[]⟩, 3) from by unfold drawnF; rw [if_neg hp.1, if_neg (by omega)])
  have hB1 : Below w.heap.size w (w.alloc (.cells #[.int .i64 k, .int .i64 n, .string s, .string t] 45)) := (Below.refl _ _).alloc (Nat.le_refl _) _
  have hb1 := al_new w (.cells #[.int .i64 k, .int .i64 n, .string s, .string t] 45)
  have hF1 := hF.below hB1
  have hlA := hF.lt
  have hlB := hF.gen.lt
  have c0 := cell_of_row _ _ 0 _ _ _ hb1
  have c1 := cell_of_row _ _ 1 _ _ _ hb1
  have c2 := cell_of_row _ _ 2 _ _ _ hb1
  have c3 := cell_of_row _ _ 3 _ _ _ hb1
  simp only [List.getElem?_toArray, List.getElem?_cons_zero, List.getElem?_cons_succ] at c0 c1 c2 c3
  have HF1 := hid hF1
  have HB1 := hid hB1
  have hz1 := al_size w (.cells #[.int .i64 k, .int .i64 n, .string s, .string t] 45)
  clear hF1 hF hb1 hB1
  go_enter Try.func22, Try.ntmps22
  go_wp2_with fail
  generalize (w.alloc (.cells #[.int .i64 k, .int .i64 n, .string s, .string t] 45)) = w1 at *
  refine (pick_any k 8 _ hk0 hk1 (by omega) (by omega)).mono ?_
  rintro e w1' ⟨rfl, rfl⟩
  have hp1 := hp.1
  have hpr := hp.2
  clear hp
  generalize pickI k 8 = p at *
  go_wp2_with fail
  refine wp_region_held_drew (S := fun w' => w'.cell? ⟨w.heap.size, 1, none⟩ = some (.int .i64 n) ∧ w'.cell? ⟨w.heap.size, 2, none⟩ = some (.string s)) (by kernel_rfl) ⟨c1, c2⟩ (fun hSw => ?_)
  refine wpAnyH_take (i := 0) (v := ?_) rfl (by decide +kernel) (by decide +kernel) (by decide +kernel) (fun _ _ _ h => h) (Or.inl ⟨by rfl, ?_⟩) hSw ?_
  rotate_left
  · intro w hw; go_simp; try with_reducible rfl
  simp only [Act.put, List.getElem_toArray, List.getElem_cons_zero, List.getElem_cons_succ, List.setIfInBounds_toArray, List.set_cons_zero, List.set_cons_succ]
  refine wpAnyH_take (i := 1) (v := ?_) rfl (by decide +kernel) (by decide +kernel) (by decide +kernel) (fun _ _ _ h => h) (Or.inl ⟨by rfl, ?_⟩) hSw ?_
  rotate_left
  · intro w hw; go_simp; try with_reducible rfl
  simp only [Act.put, List.getElem_toArray, List.getElem_cons_zero, List.getElem_cons_succ, List.setIfInBounds_toArray, List.set_cons_zero, List.set_cons_succ]
  refine wpAnyH_take (i := 2) (v := ?_) rfl (by decide +kernel) (by decide +kernel) (by decide +kernel) (fun _ _ _ h => h) (Or.inl ⟨by rfl, ?_⟩) hSw ?_
  rotate_left
  · intro w hw; have hcell := hw.1; clear hw; go_simp; try with_reducible rfl
  simp only [Act.put, List.getElem_toArray, List.getElem_cons_zero, List.getElem_cons_succ, List.setIfInBounds_toArray, List.set_cons_zero, List.set_cons_succ]
  refine wpAnyH_take (i := 4) (v := ?_) rfl (by decide +kernel) (by decide +kernel) (by decide +kernel) (fun _ _ _ h => h) (Or.inl ⟨by rfl, ?_⟩) hSw ?_
  rotate_left
  · intro w hw; go_simp; try with_reducible rfl
  simp only [Act.put, List.getElem_toArray, List.getElem_cons_zero, List.getElem_cons_succ, List.setIfInBounds_toArray, List.set_cons_zero, List.set_cons_succ]
  refine wpAnyH_take (i := 5) (v := ?_) rfl (by decide +kernel) (by decide +kernel) (by decide +kernel) (fun _ _ _ h => h) (Or.inl ⟨by rfl, ?_⟩) hSw ?_
  rotate_left
  · intro w hw; have hcell := hw.2; clear hw; go_simp; try with_reducible rfl
  simp only [Act.put, List.getElem_toArray, List.getElem_cons_zero, List.getElem_cons_succ, List.setIfInBounds_toArray, List.set_cons_zero, List.set_cons_succ]
  refine wpAnyH_ready (rs := [3]) (by kernel_rfl) (by simp) ?_
  refine AllReadyH.cons rfl (fun K hK => ?_) AllReadyH.nil
  · go_simp
    have hpb := pickI_bd n 201 (by omega)
    refine (pick_any n 201 _ hn0 hn1 (by omega) (by omega)).mono ?_
    rintro e w3 ⟨rfl, rfl⟩
    refine hK.out _ _ hSw (fun hSw => ?_)
    clear hK K
    obtain ⟨m, hm⟩ := Int.eq_ofNat_of_zero_le hpb.1
    rw [hm] at hpb ⊢
    have hm2 : m ≤ 200 := by omega
    clear hpb hm
    refine wpAnyH_ready (rs := [6]) (by kernel_rfl) (by simp) ?_
    refine AllReadyH.cons rfl (fun K hK => ?_) AllReadyH.nil
    go_simp
    refine (short_any s 64 _ (by omega) (by omega)).mono ?_
    rintro e w3 ⟨rfl, rfl⟩
    refine hK.out _ _ hSw (fun hSw => ?_)
    clear hK K
    refine wpAnyH_ready (rs := [7]) (by kernel_rfl) (by simp) ?_
    refine AllReadyH.cons rfl (fun K hK => ?_) AllReadyH.nil
    go_simp
    refine (read_over f m (cut s 64) A B w1'.drew HF1.out.drew (cut64 s) hm2 hpr).mono ?_
    rintro e w4 ⟨rfl, rfl⟩
    have hSw4 := hSw
    refine hK.out _ _ hSw4 (fun _ => ?_)
    clear hK K
    refine wpAnyH_take (i := 8) (v := ?_) rfl (by decide +kernel) (by decide +kernel) (by decide +kernel) (fun _ _ _ h => h) (Or.inl ⟨by rfl, ?_⟩) hSw4 ?_
    rotate_left
    · intro w hw; go_simp; try with_reducible rfl
    simp only [Act.put, List.getElem_toArray, List.getElem_cons_zero, List.getElem_cons_succ, List.setIfInBounds_toArray, List.set_cons_zero, List.set_cons_succ]
    refine wpAnyH_take (i := 9) (v := ?_) rfl (by decide +kernel) (by decide +kernel) (by decide +kernel) (fun _ _ _ h => h) (Or.inl ⟨by rfl, ?_⟩) hSw4 ?_
    rotate_left
    · intro w hw; go_simp; try with_reducible rfl
    simp only [Act.put, List.getElem_toArray, List.getElem_cons_zero, List.getElem_cons_succ, List.setIfInBounds_toArray, List.set_cons_zero, List.set_cons_succ]
    refine wpAnyH_take (i := 10) (v := ?_) rfl (by decide +kernel) (by decide +kernel) (by decide +kernel) (fun _ _ _ h => h) (Or.inl ⟨by rfl, ?_⟩) hSw4 ?_
    rotate_left
    · intro w hw; go_simp; try with_reducible rfl
    simp only [Act.put, List.getElem_toArray, List.getElem_cons_zero, List.getElem_cons_succ, List.setIfInBounds_toArray, List.set_cons_zero, List.set_cons_succ]
    refine wpAnyH_take (i := 11) (v := ?_) rfl (by decide +kernel) (by decide +kernel) (by decide +kernel) (fun _ _ _ h => h) (Or.inl ⟨by rfl, ?_⟩) hSw4 ?_
    rotate_left
    · intro w hw; go_simp; try with_reducible rfl
    simp only [Act.put, List.getElem_toArray, List.getElem_cons_zero, List.getElem_cons_succ, List.setIfInBounds_toArray, List.set_cons_zero, List.set_cons_succ]
    refine wpAnyH_take (i := 12) (v := ?_) rfl (by decide +kernel) (by decide +kernel) (by decide +kernel) (fun _ _ _ h => h) (Or.inl ⟨by rfl, ?_⟩) hSw4 ?_
    rotate_left
    · intro w hw; go_simp; try with_reducible rfl
    simp only [Act.put, List.getElem_toArray, List.getElem_cons_zero, List.getElem_cons_succ, List.setIfInBounds_toArray, List.set_cons_zero, List.set_cons_succ]
    refine wpAnyH_done (by kernel_rfl) ?_ _
    have hyb : Byt w1'.drew (.slice none 0 0) [] := Or.inl ⟨rfl, none, 0, rfl⟩
    have Hyb := hid hyb
    clear hyb
    go_wp2_with (refine wpList_str rfl _ rfl _ _ rfl Hyb.out ?_)
    go_ret2
    rw [hd.out]
    exact ⟨rfl, HF1.out.drew, (Ex2.of_below HB1.out).drew⟩

theorem drawn_any (f : Fnt) (k n : Int) (s t : ByteArray) (A B : Nat) (w : World) (hF : FtAt w A B f) (hk0 : -9223372036854775808 ≤ k) (hk1 : k ≤ 9223372036854775807) (hn0 : -9223372036854775808 ≤ n) (hn1 : n ≤ 9223372036854775807) (hs : s.size ≤ 9223372036854775000) (ht : t.size ≤ 9223372036854775000) :
    Calls Try.prog 22 #[.pointer (some ⟨A, 0, none⟩), .agg #[.int .i64 k, .int .i64 n, .string s, .string t]] w fun en w' => en = .returned (.tuple #[.string (drawnF f k n s t).2.1, .int .i64 (drawnF f k n s t).2.2]) ∧ FtAt w' A B (drawnF f k n s t).1 ∧ Ex2 A B w w' := by
  by_cases h1 : 5 < pickI k 8
  · exact drawn_reseed f k n s t A B w hF hk0 hk1 hn0 hn1 hs ht h1
  · by_cases h2 : f.r ≤ 8
    · exact drawn_read f k n s t A B w hF hk0 hk1 hn0 hn1 hs ht ⟨h1, h2⟩
    · exact drawn_over f k n s t A B w hF hk0 hk1 hn0 hn1 hs ht ⟨h1, by omega⟩

end Go.Proofs.Ytbifmhbkmnofiaa
