import Derived.Test.YtbifmhbkmnofiaaWe
import Derived.Test.YtbifmhbkmnofiaaDr
namespace Go.Proofs.Ytbifmhbkmnofiaa
open Go.RowKit
set_option linter.unusedVariables false
set_option linter.unusedSimpArgs false
set_option maxRecDepth 20000 in
set_option maxHeartbeats 1000000 in
theorem kwatch_any (a b c : Int) (w : World) (ha : -9223372036854775808 ≤ a) (ha' : a ≤ 9223372036854775807) (hb : -9223372036854775808 ≤ b) (hb' : b ≤ 9223372036854775807) (hc : -9223372036854775808 ≤ c) (hc' : c ≤ 9223372036854775807) :
    Calls Try.prog 25 #[.int .i64 a, .int .i64 b, .int .i64 c] w fun e w' => e = .returned (.agg #[.int .i64 (2 + pickI a 49), .int .i64 (2 + pickI b 49), .int .i64 (2 + pickI c (2 + pickI b 49 - 1))]) ∧ Below w.heap.size w w' := by
  obtain ⟨p0, p1⟩ := pickI_bd a 49 (by decide)
  obtain ⟨q0, q1⟩ := pickI_bd b 49 (by decide)
  obtain ⟨r0, r1⟩ := pickI_bd c (2 + pickI b 49 - 1) (by omega)
  go_enter Try.func25, Try.ntmps25
  go_wp2_with fail
  refine (pick_any a 49 _ ha ha' (by decide) (by decide)).mono ?_
  rintro e w1 ⟨rfl, rfl⟩
  go_wp2_with fail
  refine (pick_any b 49 _ hb hb' (by decide) (by decide)).mono ?_
  rintro e w1 ⟨rfl, rfl⟩
  generalize hp : pickI a 49 = p at *
  generalize hq : pickI b 49 = q at *
  have Hp := hid hp
  have Hq := hid hq
  clear hp hq
  go_wp2_with fail
  refine (pick_any c (2 + q - 1) _ hc hc' (by omega) (by omega)).mono ?_
  rintro e w1 ⟨rfl, rfl⟩
  generalize hr : pickI c (2 + q - 1) = r at *
  have Hr := hid hr
  clear hr
  go_wp2
  refine bodyPost_ret (results_cell_row (fn := Try.f25) (ty := 51) (p := 6) (by kernel_rfl) _ _ w.heap.size 51 #[.int .i64 (2 + p), .int .i64 (2 + q), .int .i64 (2 + r)] (0,0) _ rfl (al_old _ _ _ _ (al_new _ _)) Try.underlying51 rfl (by kernel_rfl)) rfl ⟨by rw [Hp.out, Hq.out, Hr.out], ((Below.refl _ _).alloc (Nat.le_refl _) _).alloc (by rw [al_size]; exact Nat.le_succ _) _⟩
end Go.Proofs.Ytbifmhbkmnofiaa
