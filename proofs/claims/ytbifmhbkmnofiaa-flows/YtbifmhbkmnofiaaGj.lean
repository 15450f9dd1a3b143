import Derived.Test.YtbifmhbkmnofiaaGi
namespace Go.Proofs.Ytbifmhbkmnofiaa
open Go.RowKit
set_option linter.unusedVariables false
set_option linter.unusedSimpArgs false
set_option maxHeartbeats 400000 in
theorem sseed_any (g : SG) (v : Value) (xs : List Int) (B : Nat) (w : World) (hg : g.ok) (hS : SgAt w B g) (hv : Src w v xs) (hx : xs.length ≤ 1000) :
    Calls Try.prog 89 #[.pointer (some ⟨B, 0, none⟩), v] w fun e w' => e = .returned (.tuple #[]) ∧ SgAt w' B (beginS xs) ∧ Ex B w w' := by
  go_enter Try.func89, Try.ntmps89
  go_wp2_with fail
  refine (begin_any g v xs B _ hg hS hv hx).mono ?_
  rintro e w1 ⟨rfl, hS1, hE1⟩
  go_wp2
  go_end0
  exact ⟨rfl, hS1, hE1⟩
def reseedS (g : SG) (xs : List Int) : SG := beginS (1 :: (g.v ++ xs))
theorem reseedS_eq (g : SG) (xs : List Int) : reseedS g xs = beginS (1 :: (g.v ++ xs)) := by simp only [reseedS]
theorem reseedS_ok (g : SG) (xs : List Int) : (reseedS g xs).ok := by rw [reseedS_eq]; exact beginS_ok _
set_option maxRecDepth 20000 in
set_option maxHeartbeats 1000000 in
theorem sreseed_any (g : SG) (v : Value) (xs : List Int) (B : Nat) (w : World) (hg : g.ok) (hS : SgAt w B g) (hv : Src w v xs) (hx : xs.length ≤ 800) :
    Calls Try.prog 88 #[.pointer (some ⟨B, 0, none⟩), v] w fun e w' => e = .returned (.tuple #[]) ∧ SgAt w' B (reseedS g xs) ∧ Ex B w w' := by
  obtain ⟨ao, cp, hve⟩ := hv.form
  rw [hve] at hv
  rw [hve]
  clear hve
  have He := hid (reseedS_eq g xs)
  have HV := hid hv
  have HS := hid hS
  have hsr := hid (hS.vSrc hg)
  have hlt := hS.lt
  clear hS hv
  go_enter Try.func88, Try.ntmps88
  go_wp2_with fail
  refine (concat_one 1 [(.slice (some ⟨B, 0, none⟩) 55 55, g.v), (.slice ao xs.length cp, xs)] w 3 3 _ (1 :: (g.v ++ xs)) rfl rfl ?_ (by simp [sizes]) (by omega) (by simp [hg.vl]; omega)).mono ?_
  · intro p hp
    simp only [List.mem_cons, List.not_mem_nil, or_false] at hp
    rcases hp with rfl | rfl
    · exact hsr.out
    · exact HV.out
  rintro e w3 ⟨r, rfl, hr3, hB3⟩
  have hS3 := HS.out.other (hB3.block B hlt)
  clear HS HV hsr
  go_wp2_with fail
  refine (begin_any g r _ B _ hg hS3 hr3 (by simp [hg.vl]; omega)).mono ?_
  rintro e w4 ⟨rfl, hS4, hE4⟩
  go_wp2
  go_end0
  rw [He.out]
  exact ⟨rfl, hS4, (Ex.of_below hB3).trans hE4⟩
/-- the sum of a byte, V and some bytes -/
def markI (m : Int) (V xs : List Int) : List Int := shaI (m :: (V ++ xs))
theorem markI_len (m : Int) (V xs : List Int) : (markI m V xs).length = 32 := shaI_len _
theorem markI_B (m : Int) (V xs : List Int) : allB (markI m V xs) := shaI_B _
set_option maxRecDepth 20000 in
set_option maxHeartbeats 1000000 in
theorem marked_any (g : SG) (m : Int) (v : Value) (xs : List Int) (B : Nat) (w : World) (hg : g.ok) (hS : SgAt w B g) (hv : Src w v xs) (hx : xs.length ≤ 1000) :
    Calls Try.prog 91 #[.pointer (some ⟨B, 0, none⟩), .int .u8 m, v] w fun e w' => ∃ sb, e = .returned (.slice (some ⟨sb, 0, none⟩) 32 32) ∧ w.heap.size ≤ sb ∧ w'.heap[sb]? = some (.cells (ints .u8 (markI m g.v xs)) 68 (0, 0)) ∧ Below w.heap.size w w' := by
  obtain ⟨ao, cp, hve⟩ := hv.form
  rw [hve] at hv
  rw [hve]
  clear hve
  have He := hid (show markI m g.v xs = shaI (m :: (g.v ++ xs)) from rfl)
  have HV := hid hv
  have hsr := hid (hS.vSrc hg)
  clear hS hv
  go_enter Try.func91, Try.ntmps91
  go_wp2_with fail
  refine (concat_one m [(.slice (some ⟨B, 0, none⟩) 55 55, g.v), (.slice ao xs.length cp, xs)] w 3 3 _ (m :: (g.v ++ xs)) rfl rfl ?_ (by simp [sizes]) (by omega) (by simp [hg.vl]; omega)).mono ?_
  · intro p hp
    simp only [List.mem_cons, List.not_mem_nil, or_false] at hp
    rcases hp with rfl | rfl
    · exact hsr.out
    · exact HV.out
  rintro e w3 ⟨r, rfl, hr3, hB3⟩
  clear HV hsr
  go_wp2_with fail
  refine (DSum_any r _ _ hr3.byt (by simp [hg.vl]; omega)).mono ?_
  rintro e w4 ⟨rfl, hB4⟩
  rw [← He.out]
  have hC4 := hB3.trans (hB4.mono hB3.size)
  have hz4 := hC4.size
  clear hB3 hB4 hr3
  have hsl := markI_len m g.v xs
  generalize hsk : markI m g.v xs = sk at *
  have Hsk := hid hsk
  clear hsk
  have hi5 : ((w4.alloc (.cells (ints .u8 Z32) 68)).setRow w4.heap.size (ints .u8 sk)).heap[w4.heap.size]? = some (.cells (ints .u8 sk) 68 (0, 0)) := setRow_heap _ _ _ _ _ _ (al_new _ _)
  have hB5 : Below w.heap.size w ((w4.alloc (.cells (ints .u8 Z32) 68)).setRow w4.heap.size (ints .u8 sk)) := below_setRow (hC4.alloc (by omega) _) _ (by omega) _
  have Hi5 := hid hi5
  clear hi5
  go_wp2_with (first
    | refine wpList_alloc_eq rfl 68 rfl (ints .u8 Z32) Try.alloc68 ?_
    | refine wpList_store_row rfl 68 _ _ rfl w4.heap.size (ints .u8 sk) rfl rfl 68 (ints .u8 Z32) (al_new _ _) (by rw [ints_size, hsl]; exact Try.info68) (by rw [ints_size, ints_size, hsl]; rfl) (ints_one _ _) ?_)
  go_ret
  exact ⟨w4.heap.size, rfl, hz4, by rw [Hsk.out]; exact Hi5.out, hB5⟩
end Go.Proofs.Ytbifmhbkmnofiaa
