import Derived.Test.YtbifmhbkmnofiaaDo
namespace Go.Proofs.Ytbifmhbkmnofiaa
open Go.RowKit
set_option linter.unusedVariables false
set_option linter.unusedSimpArgs false
set_option maxRecDepth 20000 in
set_option maxHeartbeats 1000000 in
theorem published_any (w : World) : Calls Try.prog 3 #[] w fun e w' => e = .returned (.bool true) ∧ Below w.heap.size w w' := by
  go_enter Try.func3, Try.ntmps3
  go_wp2_with fail
  refine (SSum_yes m0 _ (by decide)).mono ?_
  rintro e w1 ⟨rfl, hB1⟩
  generalize ha0 : toS (shaI (bts m0)) = a0 at *
  have Ha0 := hid ha0
  clear ha0
  go_wp2_with fail
  refine (SSum_yes m1 _ (by decide)).mono ?_
  rintro e w2 ⟨rfl, hB2⟩
  have hC2 := hB1.trans (hB2.mono hB1.size)
  clear hB1 hB2
  generalize ha1 : toS (shaI (bts m1)) = a1 at *
  have Ha1 := hid ha1
  clear ha1
  go_wp2_with fail
  refine (SSum_yes m2 _ (by decide)).mono ?_
  rintro e w3 ⟨rfl, hB3⟩
  have hC3 := hC2.trans (hB3.mono hC2.size)
  clear hC2 hB3
  generalize ha2 : toS (shaI (bts m2)) = a2 at *
  have Ha2 := hid ha2
  clear ha2
  go_wp2_with fail
  refine (SMac_yes mk mm _ (by decide) (by decide)).mono ?_
  rintro e w4 ⟨rfl, hB4⟩
  have hC4 := hC3.trans (hB4.mono hC3.size)
  clear hC3 hB4
  generalize ha3 : toS (macI (bts mk) (bts mm)) = a3 at *
  have Ha3 := hid ha3
  clear ha3
  go_wp2_with fail
  refine (hex_any x0 _ (by decide)).mono ?_
  rintro e w5 ⟨rfl, hB5⟩
  have hC5 := hC4.trans (hB5.mono hC4.size)
  clear hC4 hB5
  rw [e0, Ha0.out]
  go_wp2_with fail
  refine (hex_any x1 _ (by decide)).mono ?_
  rintro e w6 ⟨rfl, hB6⟩
  have hC6 := hC5.trans (hB6.mono hC5.size)
  clear hC5 hB6
  rw [e1, Ha1.out]
  go_wp2_with fail
  refine (hex_any x2 _ (by decide)).mono ?_
  rintro e w7 ⟨rfl, hB7⟩
  have hC7 := hC6.trans (hB7.mono hC6.size)
  clear hC6 hB7
  rw [e2, Ha2.out]
  go_wp2_with fail
  refine (hex_any x3 _ (by decide)).mono ?_
  rintro e w8 ⟨rfl, hB8⟩
  have hC8 := hC7.trans (hB8.mono hC7.size)
  clear hC7 hB8
  rw [e3, Ha3.out]
  go_wp2
  go_ret
  exact ⟨rfl, hC8⟩
end Go.Proofs.Ytbifmhbkmnofiaa
