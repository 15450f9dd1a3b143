import Derived.Test.YtbifmhbkmnofiaaGc
namespace Go.Proofs.Ytbifmhbkmnofiaa
open Go.RowKit
set_option linter.unusedVariables false
set_option linter.unusedSimpArgs false
theorem MgAt.row {w : World} {B : Nat} {g : MG} (h : MgAt w B g) : ∃ t, w.heap[B]? = some (.cells (ints .u8 (g.k ++ g.v)) t (0, 0)) := by
  obtain ⟨t, h⟩ := h
  exact ⟨t, by rw [h]; simp [ints]⟩
theorem MgAt.of_row {w : World} {B : Nat} {k v : List Int} {t : TypeId} (h : w.heap[B]? = some (.cells (ints .u8 (k ++ v)) t (0, 0))) : MgAt w B ⟨k, v⟩ :=
  ⟨t, by rw [h]; simp [ints]⟩
theorem MgAt.setCell {w : World} {B : Nat} {k v : List Int} (h : MgAt w B ⟨k, v⟩) (hk : k.length = 32) (j : Nat) (hj : j < v.length) (x : Int) : MgAt (w.setCell ⟨B, 32 + j, none⟩ (.int .u8 x)) B ⟨k, v.set j x⟩ := by
  obtain ⟨t, h⟩ := h.row
  dsimp only at h
  refine MgAt.of_row (t := t) ?_
  rw [setCell_ints w B (32 + j) .u8 _ x t h]
  rw [List.set_append_right _ _ (by omega), show 32 + j - k.length = j by omega]
def ones (k : Nat) : List Int := List.replicate k 1 ++ List.replicate (32 - k) 0
theorem ones_len (k : Nat) (h : k ≤ 32) : (ones k).length = 32 := by simp [ones]; omega
theorem ones_step (k : Nat) (h : k < 32) : ones (k + 1) = (ones k).set k 1 := by
  unfold ones
  rw [List.set_append_right _ _ (by simp), List.length_replicate, Nat.sub_self, show 32 - k = (32 - (k + 1)) + 1 by omega, List.replicate_succ (n := 32 - (k + 1)), List.set_cons_zero]
  rw [List.replicate_succ', List.append_assoc]; rfl
theorem ones_get (k : Nat) (h : k < 32) : (ones k)[k]? = some 0 := by
  unfold ones
  rw [List.getElem?_append_right (by simp), List.length_replicate, Nat.sub_self, List.getElem?_replicate, if_pos (by omega)]
def seedG (xs : List Int) : MG := stirG ⟨Z32, ones 32⟩ xs
theorem seedG_ok (xs : List Int) : (seedG xs).ok := stirG_ok (mk_ok (by rfl) (by rfl)) xs
theorem Try.info114 : (Try.prog.info? 114).map (·.size) = some 64 := by kernel_rfl
theorem Try.underl121 : ∃ d, Try.prog.underlying 114 = some d := ⟨_, Try.underlying114⟩
set_option maxRecDepth 20000 in
set_option maxHeartbeats 400000 in
theorem mseed_any (g : MG) (v : Value) (xs : List Int) (B : Nat) (w : World) (hg : g.ok) (hS : MgAt w B g) (hv : Src w v xs) (hx : xs.length ≤ 1000) (ho : Off v B) :
    Calls Try.prog 81 #[.pointer (some ⟨B, 0, none⟩), v] w fun e w' => e = .returned (.tuple #[]) ∧ MgAt w' B (seedG xs) ∧ Ex B w w' := by
  obtain ⟨t, hb⟩ := hS.row
  have hlt := hS.lt
  have HV := hid hv
  have HO := hid ho
  clear hv ho
  have hz : (ints .u8 (g.k ++ g.v)).size = (ints .u8 (Z32 ++ ones 0)).size := by simp [ints_size, hg.kl, hg.vl, Z32, ones]
  have hi : (Try.prog.info? 114).map (·.size) = some (ints .u8 (Z32 ++ ones 0)).size := by rw [Try.info114]; rfl
  have h1 : MgAt (w.setRow B (ints .u8 (Z32 ++ ones 0))) B ⟨Z32, ones 0⟩ := MgAt.of_row (setRow_heap _ _ _ _ _ _ hb)
  have hE1 : Ex B w (w.setRow B (ints .u8 (Z32 ++ ones 0))) := ⟨rfl, rfl, rfl, by rw [size_setRow]; exact Nat.le_refl _, fun k _ hk => heap_setRow _ _ _ _ hk⟩
  have hZ : Z32.length = 32 := rfl
  have Hb := hid hb
  have Hz := hid hz
  have Hi := hid hi
  clear hb hz hi
  generalize hzz : Z32 ++ ones 0 = zz at *
  obtain ⟨z32, hz32⟩ : ∃ z, Z32 = z := ⟨_, rfl⟩
  rw [hz32] at h1 hZ
  have hZ32 := hid hz32
  clear hz32
  go_enter Try.func81, Try.ntmps81
  go_wp2_with (first
    | refine wpList_build_eq rfl 114 _ rfl (ints .u8 zz) (by kernel_rfl) ?_
    | refine wpList_store_row rfl 114 _ _ rfl B (ints .u8 zz) rfl rfl t _ Hb.out Hi.out Hz.out (ints_one _ _) ?_)
  clear Hb Hz Hi
  generalize w.setRow B (ints .u8 zz) = w1 at *
  go_loopw [8] (fun i wr => ∃ k : Nat, k ≤ 32 ∧ i = .int .i64 k ∧ MgAt wr B ⟨z32, ones k⟩ ∧ Ex B w wr) (fun i _ => 32 - (intOf i).toNat)
  case atStart => exact ⟨0, by omega, rfl, h1, hE1⟩
  case round =>
    clear h1 hE1
    obtain ⟨k, hk, rfl, h1, hE1⟩ := hrel
    by_cases hlt : k < 32
    · have c1 : wr.cell? ⟨B, 32 + k, none⟩ = some (.int .u8 0) := by
        rw [h1.cell]
        dsimp only
        rw [List.getElem?_append_right (by simp [hZ])]
        simp [hZ, ones_get k hlt]
      have f1 : wr.frozen? ⟨B, 32 + k, none⟩ = false := h1.frozen _
      have hst := hid (ones_step k hlt)
      have h2 := hid (h1.setCell hZ k (by rw [ones_len k hk]; exact hlt) 1)
      clear h1
      go_wp2
      exact ⟨⟨k + 1, by omega, by go_num, by rw [hst.out]; exact h2.out, hE1.setCell _ _⟩, by simp [intOf]; omega⟩
    · obtain rfl : k = 32 := by omega
      have hos : Src wr v xs := HV.out.ex hE1 HO.out
      have hsg : Hd (seedG xs = stirG ⟨z32, ones 32⟩ xs) := hid (by rw [← hZ32.out]; simp only [seedG])
      have hok := mk_ok hZ (ones_len 32 (by omega))
      go_wp2_with fail
      refine (stir_any _ v xs B _ hok h1 hos hx HO.out).mono ?_
      rintro e w2 ⟨rfl, hS2, hE2⟩
      go_wp2
      go_end0
      rw [hsg.out]
      exact ⟨rfl, hS2, hE1.trans hE2⟩
end Go.Proofs.Ytbifmhbkmnofiaa
