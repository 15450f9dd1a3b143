import Derived.Test.YtbifmhbkmnofiaaXz
namespace Go.Proofs.Ytbifmhbkmnofiaa
open Go.RowKit
set_option linter.unusedVariables false
set_option linter.unusedSimpArgs false
def thirty : List Int := [48, 49, 50, 51, 52, 53, 54, 55, 56, 57, 97, 98, 99, 100, 101, 102, 48, 49, 50, 51, 52, 53, 54, 55, 56, 57, 97, 98, 99, 100, 101, 102]
theorem take_thirty : ∃ y, takeW 3 5 4 W0 thirty 0 = (y, none) := ⟨_, rfl⟩
theorem fed_thirty : ∃ y, fedG ⟨3, 5, 4, W0, false⟩ thirty = (32, 0, ⟨3, 5, 4, y, false⟩) := by
  obtain ⟨y, h⟩ := take_thirty
  exact ⟨y, by unfold fedG; dsimp only; rw [h]; rfl⟩
set_option maxRecDepth 20000 in
set_option maxHeartbeats 2000000 in
theorem flowed_any (w : World) : Calls Try.prog 30 #[] w fun e w' => e = .returned (.bool true) ∧ Below w.heap.size w w' := by
  go_enter Try.func30, Try.ntmps30
  go_wp2_with fail
  refine (guarded_any _).mono ?_
  rintro e w1 ⟨rfl, hB1⟩
  have HB1 := hid hB1
  clear hB1
  go_wp2_with fail
  refine (open_yes 1 3 5 4 ⟨#[]⟩ w.heap.size _ (.inl rfl) (by decide) (by decide) HB1.out.size).mono ?_
  rintro e w2 ⟨A, rfl, hA, hW2, hB2⟩
  have HB2 := hid (HB1.out.trans (hB2.mono HB1.out.size))
  have HW2 := hid hW2
  have hA2 : w.heap.size ≤ A := Nat.le_trans HB1.out.size hA
  clear hB2 hW2 HB1
  go_wp2_with fail
  refine (wdraw_little 5 ⟨#[]⟩ w.heap.size A [A] _ w2 HW2.out rfl (by decide) (by decide) rfl (by decide)).mono ?_
  rintro e w3 ⟨rfl, hw⟩
  have hw3 := hw.symm
  subst hw3
  clear hw
  have kc := fun (w : World) (C : Array Value) (n c : Nat) => Lib.run_convert_bytes_const (P := Try.prog) w 35 5 C n c Try.underlying35 Try.underlying5
  have HBy : Hd (Byt (w2.alloc (.cells #[.int .u8 48, .int .u8 49, .int .u8 50, .int .u8 51, .int .u8 52, .int .u8 53, .int .u8 54, .int .u8 55, .int .u8 56, .int .u8 57, .int .u8 97, .int .u8 98, .int .u8 99, .int .u8 100, .int .u8 101, .int .u8 102, .int .u8 48, .int .u8 49, .int .u8 50, .int .u8 51, .int .u8 52, .int .u8 53, .int .u8 54, .int .u8 55, .int .u8 56, .int .u8 57, .int .u8 97, .int .u8 98, .int .u8 99, .int .u8 100, .int .u8 101, .int .u8 102] 5 (32, 33))) (.slice (some ⟨w2.heap.size, 0, none⟩) 32 32) thirty) := hid (Byt.row (al_new w2 (.cells #[.int .u8 48, .int .u8 49, .int .u8 50, .int .u8 51, .int .u8 52, .int .u8 53, .int .u8 54, .int .u8 55, .int .u8 56, .int .u8 57, .int .u8 97, .int .u8 98, .int .u8 99, .int .u8 100, .int .u8 101, .int .u8 102, .int .u8 48, .int .u8 49, .int .u8 50, .int .u8 51, .int .u8 52, .int .u8 53, .int .u8 54, .int .u8 55, .int .u8 56, .int .u8 57, .int .u8 97, .int .u8 98, .int .u8 99, .int .u8 100, .int .u8 101, .int .u8 102] 5 (32, 33))) 32 32 rfl)
  have HBx : Hd (Below w2.heap.size w2 (w2.alloc (.cells #[.int .u8 48, .int .u8 49, .int .u8 50, .int .u8 51, .int .u8 52, .int .u8 53, .int .u8 54, .int .u8 55, .int .u8 56, .int .u8 57, .int .u8 97, .int .u8 98, .int .u8 99, .int .u8 100, .int .u8 101, .int .u8 102, .int .u8 48, .int .u8 49, .int .u8 50, .int .u8 51, .int .u8 52, .int .u8 53, .int .u8 54, .int .u8 55, .int .u8 56, .int .u8 57, .int .u8 97, .int .u8 98, .int .u8 99, .int .u8 100, .int .u8 101, .int .u8 102] 5 (32, 33)))) := hid ((Below.refl _ _).alloc (Nat.le_refl _) _)
  go_wp2_with fail
  generalize (w2.alloc (.cells #[.int .u8 48, .int .u8 49, .int .u8 50, .int .u8 51, .int .u8 52, .int .u8 53, .int .u8 54, .int .u8 55, .int .u8 56, .int .u8 57, .int .u8 97, .int .u8 98, .int .u8 99, .int .u8 100, .int .u8 101, .int .u8 102, .int .u8 48, .int .u8 49, .int .u8 50, .int .u8 51, .int .u8 52, .int .u8 53, .int .u8 54, .int .u8 55, .int .u8 56, .int .u8 57, .int .u8 97, .int .u8 98, .int .u8 99, .int .u8 100, .int .u8 101, .int .u8 102] 5 (32, 33))) = w4 at *
  have hW4 := HW2.out.below HBx.out
  have hAl : A < w2.heap.size := by obtain ⟨_, _, h⟩ := HW2.out; exact (h.lo A h.mem).2
  have hok : (⟨1, ⟨#[]⟩, ⟨3, 5, 4, W0, false⟩, [], none⟩ : Wel).ok := ⟨.inl rfl, by decide, Gd.ok_new (by decide) false, by simp⟩
  refine (wfeed_any w.heap.size A [A] _ _ thirty w4 hW4 hok HBy.out.src (fun ad n c h _ => by simp at h; rw [← h.1]; simp; omega) (Nat.le_trans HB2.out.size HBx.out.size)).mono ?_
  obtain ⟨y, hy⟩ := fed_thirty
  have hp : pourW ⟨1, ⟨#[]⟩, ⟨3, 5, 4, W0, false⟩, [], none⟩ thirty = (32, 0, ⟨1, ⟨#[]⟩, ⟨3, 5, 4, y, false⟩, thirty, none⟩) := by
    rw [pourW_take rfl (by decide), hy]
    rfl
  have hok2 := pourW_ok hok thirty
  rw [hp] at hok2 ⊢
  rintro e w5 ⟨rfl, bs5, hW5, hT5⟩
  dsimp only at hW5 hok2 ⊢
  have HW5 := hid hW5
  have HT5 := hid hT5
  have HB4 := hid (HB2.out.trans (HBx.out.mono HB2.out.size))
  have Hok2 := hid hok2
  clear hW5 hT5 hW4 hok hp hy hok2 HBy HBx HW2 HB2 kc
  go_wp2_with fail
  refine (samples_any w.heap.size A bs5 _ w5 HW5.out).mono ?_
  rintro e w6 ⟨rfl, hw⟩
  have hw6 := hw.symm
  subst hw6
  clear hw
  have hl : ((⟨1, ⟨#[]⟩, ⟨3, 5, 4, y, false⟩, thirty, none⟩ : Wel).kept.length : Int) = 32 := rfl
  rw [hl]
  clear hl
  go_wp2_with fail
  refine (wdraw_any 5 ⟨#[]⟩ w.heap.size A bs5 _ _ w5 HW5.out Hok2.out rfl (by decide) (by decide) (fun _ => by show 32 ≤ thirty.length; decide) rfl).mono ?_
  rintro e w7 ⟨gb, rfl, hgb, hr7, bs7, hW7, hT7⟩
  have hl7 : ((([] : List Int).length : Nat) : Int) = 0 := rfl
  rw [if_pos (show needs ⟨1, ⟨#[]⟩, ⟨3, 5, 4, y, false⟩, thirty, none⟩ = true from rfl)] at hW7
  obtain ⟨s7, hW7⟩ : ∃ s7, WellAt w7 w.heap.size A bs7 ⟨1, ⟨#[]⟩, ⟨3, 5, 4, y, false⟩, [], s7⟩ := ⟨_, hW7⟩
  have HW7 := hid hW7
  have HT7 := hid (HT5.out.trans hT7)
  clear hW7 hT7 hr7
  go_wp2_with fail
  refine (samples_any w.heap.size A bs7 _ w7 HW7.out).mono ?_
  rintro e w8 ⟨rfl, hw⟩
  have hw8 := hw.symm
  subst hw8
  clear hw
  go_wp2
  go_ret
  exact ⟨rfl, HB4.out.trans (HT7.out.below (fun b hb => by simp at hb; omega) HB4.out.size)⟩
end Go.Proofs.Ytbifmhbkmnofiaa
