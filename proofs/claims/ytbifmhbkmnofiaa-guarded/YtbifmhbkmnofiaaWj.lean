import Derived.Test.YtbifmhbkmnofiaaWi
import Derived.Test.YtbifmhbkmnofiaaKc
import Derived.Lib.SlBytesConst
namespace Go.Proofs.Ytbifmhbkmnofiaa
open Go.RowKit
set_option linter.unusedVariables false
set_option linter.unusedSimpArgs false
theorem take_baaa : takeW 3 5 4 W0 [98, 97, 97, 97] 0 = (⟨97, 3, 98, 1, 3⟩, some (false, 3)) := by rfl
theorem take_long : (takeW 3 5 4 W0 [97, 98, 97, 97, 99, 103, 103, 97, 103, 103] 0).2 = some (true, 9) := by rfl
theorem Byt.row {w : World} {A : Nat} {xs : List Int} {ty : TypeId} {f : Nat × Nat} (h : w.heap[A]? = some (.cells (ints .u8 xs) ty f)) (n c : Nat) (hn : n = xs.length) : Byt w (.slice (some ⟨A, 0, none⟩) n c) xs := by
  subst hn
  refine Or.inr ⟨A, 0, c, rfl, fun j hj => ?_⟩
  rw [cell_of_row _ _ _ _ _ _ h, Nat.zero_add, ints]
  simp [hj]
set_option maxRecDepth 20000 in
set_option maxHeartbeats 2000000 in
theorem guarded_any (w : World) : Calls Try.prog 24 #[] w fun e w' => e = .returned (.bool true) ∧ Below w.heap.size w w' := by
  go_enter Try.func24, Try.ntmps24
  go_wp2_with fail
  refine (begun_any _).mono ?_
  rintro e w1 ⟨rfl, hB1⟩
  have HB1 := hid hB1
  clear hB1
  go_wp2_with fail
  refine (newGuard_yes 3 5 4 _ (by decide)).mono ?_
  rintro e w2 ⟨A, rfl, hA, hG2, hB2⟩
  have HB2 := hid (HB1.out.trans (hB2.mono HB1.out.size))
  have HG2 := hid hG2
  have hA2 : w.heap.size ≤ A := Nat.le_trans HB1.out.size hA
  clear hB2 hG2 HB1
  go_wp2_with fail
  refine (newGuard_yes 3 5 4 _ (by decide)).mono ?_
  rintro e w3 ⟨B, rfl, hB, hG3, hB3⟩
  have hAl := HG2.out.lt
  have HB3 := hid (HB2.out.trans (hB3.mono HB2.out.size))
  have HG3 := hid hG3
  have HA3 : Hd (GdAt w3 A ⟨3, 5, 4, W0, false⟩) := hid (WsAt.other HG2.out (hB3.block A hAl))
  have hB2' : w.heap.size ≤ B := Nat.le_trans HB2.out.size hB
  clear hB3 hG3 HB2 HG2
  have kc := fun (w : World) (C : Array Value) (n c : Nat) => Lib.run_convert_bytes_const (P := Try.prog) w 35 5 C n c Try.underlying35 Try.underlying5
  have hz3 := HG3.out.lt
  have HBy : Hd (Byt (w3.alloc (.cells #[.int .u8 98, .int .u8 97, .int .u8 97, .int .u8 97] 5 (4, 5))) (.slice (some ⟨w3.heap.size, 0, none⟩) 4 4) [98, 97, 97, 97]) := hid (Byt.row (al_new w3 (.cells #[.int .u8 98, .int .u8 97, .int .u8 97, .int .u8 97] 5 (4, 5))) 4 4 rfl)
  have HBx : Hd (Below w3.heap.size w3 (w3.alloc (.cells #[.int .u8 98, .int .u8 97, .int .u8 97, .int .u8 97] 5 (4, 5)))) := hid ((Below.refl _ _).alloc (Nat.le_refl _) _)
  go_wp2_with fail
  generalize w3.alloc (.cells #[.int .u8 98, .int .u8 97, .int .u8 97, .int .u8 97] 5 (4, 5)) = w4 at *
  have HA4 : GdAt w4 A ⟨3, 5, 4, W0, false⟩ := WsAt.other HA3.out (HBx.out.block A HA3.out.lt)
  have hA3l := HA3.out.lt
  refine (gfeed_take ⟨3, 5, 4, W0, false⟩ A _ [98, 97, 97, 97] w4 HA4 rfl HBy.out (fun ad n c h _ => by simp at h; rw [← h.1]; simp; omega) (by decide) (W0_ok (by decide) (by decide) (by decide)) (by decide) (by decide) (by decide) (by decide)).mono ?_
  have he1 : fedG ⟨3, 5, 4, W0, false⟩ [98, 97, 97, 97] = (3, 4, ⟨3, 5, 4, W0, true⟩) := by rfl
  rw [he1]
  rintro e w5 ⟨rfl, hG5, hE5⟩
  have HE5 := hid hE5
  have HG5 : Hd (GdAt w5 B ⟨3, 5, 4, W0, false⟩) := hid (WsAt.other (WsAt.other HG3.out (HBx.out.block B HG3.out.lt)) (hE5.block B (by have := HBx.out.size; omega) (by omega)))
  have HB5 := hid (HB3.out.trans (HBx.out.mono HB3.out.size))
  have hz5 := HG5.out.lt
  clear hE5 HA3 HG3 HA4 HBy HBx HB3
  dsimp only
  have HBy : Hd (Byt (w5.alloc (.cells #[.int .u8 97, .int .u8 98, .int .u8 97, .int .u8 97, .int .u8 99, .int .u8 103, .int .u8 103, .int .u8 97, .int .u8 103, .int .u8 103] 5 (10, 11))) (.slice (some ⟨w5.heap.size, 0, none⟩) 10 10) [97, 98, 97, 97, 99, 103, 103, 97, 103, 103]) := hid (Byt.row (al_new w5 (.cells #[.int .u8 97, .int .u8 98, .int .u8 97, .int .u8 97, .int .u8 99, .int .u8 103, .int .u8 103, .int .u8 97, .int .u8 103, .int .u8 103] 5 (10, 11))) 10 10 rfl)
  have HBx : Hd (Below w5.heap.size w5 (w5.alloc (.cells #[.int .u8 97, .int .u8 98, .int .u8 97, .int .u8 97, .int .u8 99, .int .u8 103, .int .u8 103, .int .u8 97, .int .u8 103, .int .u8 103] 5 (10, 11)))) := hid ((Below.refl _ _).alloc (Nat.le_refl _) _)
  go_wp2_with fail
  generalize w5.alloc (.cells #[.int .u8 97, .int .u8 98, .int .u8 97, .int .u8 97, .int .u8 99, .int .u8 103, .int .u8 103, .int .u8 97, .int .u8 103, .int .u8 103] 5 (10, 11)) = w6 at *
  have HA6 : GdAt w6 B ⟨3, 5, 4, W0, false⟩ := WsAt.other HG5.out (HBx.out.block B HG5.out.lt)
  refine (gfeed_take ⟨3, 5, 4, W0, false⟩ B _ [97, 98, 97, 97, 99, 103, 103, 97, 103, 103] w6 HA6 rfl HBy.out (fun ad n c h _ => by simp at h; rw [← h.1]; simp; omega) (by decide) (W0_ok (by decide) (by decide) (by decide)) (by decide) (by decide) (by decide) (by decide)).mono ?_
  have he2 : fedG ⟨3, 5, 4, W0, false⟩ [97, 98, 97, 97, 99, 103, 103, 97, 103, 103] = (9, 5, ⟨3, 5, 4, W0, true⟩) := by rfl
  rw [he2]
  rintro e w7 ⟨rfl, hG7, hE7⟩
  have HE7 := hid hE7
  clear hE7 hG7 HBy
  dsimp only
  go_wp2
  go_ret
  refine ⟨rfl, ?_⟩
  have k1 := HB5.out.trans (HE5.out.below hA2 HB5.out.size)
  have k2 := k1.trans (HBx.out.mono k1.size)
  exact k2.trans (HE7.out.below hB2' k2.size)
end Go.Proofs.Ytbifmhbkmnofiaa
