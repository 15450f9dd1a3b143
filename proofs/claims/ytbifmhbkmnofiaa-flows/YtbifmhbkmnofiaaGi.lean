import Derived.Test.YtbifmhbkmnofiaaGh
import Derived.Test.YtbifmhbkmnofiaaRh
namespace Go.Proofs.Ytbifmhbkmnofiaa
open Go.RowKit
set_option linter.unusedVariables false
set_option linter.unusedSimpArgs false
/-- one byte, made on the spot, and slices behind it -/
theorem concat_one (m : Int) (ps : List (Value × List Int)) (w : World) (n cap : Nat) (cs : Array Value) (xs : List Int) (hn : ps.length + 1 = n) (hcs : cs = (Value.slice (some ⟨w.heap.size, 0, none⟩) 1 1 :: ps.map (·.1)).toArray) (hs : ∀ p ∈ ps, Src w p.1 p.2) (hx : m :: sizes ps ps.length = xs) (hl : n ≤ 1000) (hxl : xs.length ≤ 1000000) :
    Calls Try.prog 85 #[.slice (some ⟨w.heap.size + 1, 0, none⟩) n cap] ((w.alloc (.cells #[Value.int .u8 m] 5)).alloc (.cells cs 35)) fun e w' => ∃ r, e = .returned r ∧ Src w' r xs ∧ Below w.heap.size w w' := by
  have hB : Below w.heap.size w (w.alloc (.cells #[Value.int .u8 m] 5)) := (Below.refl _ _).alloc (Nat.le_refl _) _
  have hz := al_size w (.cells #[Value.int .u8 m] 5)
  have h1 := src_one w m 1
  generalize (w.alloc (.cells #[Value.int .u8 m] 5)) = w1 at *
  rw [← hz]
  refine (concat_new ((Value.slice (some ⟨w.heap.size, 0, none⟩) 1 1, [m]) :: ps) w1 n cap cs xs (by simpa using hn) hcs ?_ ?_ hl hxl).mono ?_
  · intro p hp
    rcases List.mem_cons.1 hp with rfl | hp
    · exact h1
    · exact (hs p hp).mono hB
  · rw [← hx]
    unfold sizes
    simp
  · rintro e w' ⟨r, rfl, hr, hB2⟩
    exact ⟨r, rfl, hr, hB.trans (hB2.mono (by omega))⟩
theorem stretchI_B (xs : List Int) : allB (stretchI xs) := by
  unfold stretchI
  intro x hx
  unfold part at hx
  rw [List.mem_append] at hx
  rcases hx with hx | hx
  · have hx := List.mem_of_mem_take hx
    simp only [rows32, List.nil_append, List.mem_append] at hx
    rcases hx with hx | hx
    · unfold strF at hx; exact shaI_B _ x hx
    · unfold strF at hx; exact shaI_B _ x hx
  · simp [zeros] at hx
def beginS (xs : List Int) : SG := ⟨stretchI xs, stretchI (0 :: stretchI xs)⟩
theorem beginS_eq (xs : List Int) : beginS xs = ⟨stretchI xs, stretchI (0 :: stretchI xs)⟩ := by simp only [beginS]
theorem beginS_ok (xs : List Int) : (beginS xs).ok := by
  rw [beginS_eq]
  exact ⟨stretchI_len xs, stretchI_len (0 :: stretchI xs), stretchI_B xs, stretchI_B (0 :: stretchI xs)⟩
set_option maxRecDepth 20000 in
set_option maxHeartbeats 1000000 in
theorem begin_any (g : SG) (v : Value) (xs : List Int) (B : Nat) (w : World) (hg : g.ok) (hS : SgAt w B g) (hv : Src w v xs) (hx : xs.length ≤ 1000) :
    Calls Try.prog 94 #[.pointer (some ⟨B, 0, none⟩), v] w fun e w' => e = .returned (.tuple #[]) ∧ SgAt w' B (beginS xs) ∧ Ex B w w' := by
  have hlt := hS.lt
  have HS := hid hS
  have He := hid (beginS_eq xs)
  clear hS
  go_enter Try.func94, Try.ntmps94
  go_wp2_with fail
  refine (stretch_any v xs w hv hx).mono ?_
  rintro e w1 ⟨rfl, hB1⟩
  have hl1 := stretchI_len xs
  have hS1 := HS.out.other (hB1.block B hlt)
  generalize hss : stretchI xs = s1 at *
  have Hth := hid (show w1.there B 0 (ints .u8 s1).size from by rw [ints_size, hl1]; exact hS1.v.there hg.vl)
  have hN2 := hS1.v.setCells s1 (by rw [hl1, hg.vl])
  have hE2 := (Ex.of_below (B := B) hB1).setCells 0 (ints .u8 s1).toList
  have Hi : Hd ((Try.prog.info? 117).map (·.size) = some (ints .u8 s1).size) := hid (by rw [ints_size, hl1]; exact Try.info117)
  have hS2 := SgAt.of_v hN2
  rw [List.length_nil] at hS2
  clear hN2 hS1 hB1 HS
  go_wp2_with (refine wpList_store_mid rfl 117 _ _ rfl B 0 (ints .u8 s1) rfl rfl Hth.out Hi.out (ints_one _ _) ?_)
  generalize (w1.setCells B 0 (ints .u8 s1).toList) = w2 at *
  have hS2' := hid hS2
  have hgo : (⟨s1, g.c⟩ : SG).ok := ⟨hl1, hg.cl, by rw [← hss]; exact stretchI_B xs, hg.cb⟩
  have hsr := hS2.vSrc hgo
  refine (concat_one 0 [(.slice (some ⟨B, 0, none⟩) 55 55, s1)] w2 2 2 _ (0 :: s1) rfl rfl ?_ (by simp [sizes]) (by omega) (by simp [hl1])).mono ?_
  · intro p hp
    simp only [List.mem_cons, List.not_mem_nil, or_false] at hp
    subst hp
    exact hsr
  rintro e w3 ⟨r, rfl, hr3, hB3⟩
  have hlt2 := hS2.lt
  have hS3 := hS2.other (hB3.block B hlt2)
  clear hS2 hS2' hsr Hth Hi
  go_wp2_with fail
  refine (stretch_any r (0 :: s1) w3 hr3 (by simp [hl1])).mono ?_
  rintro e w4 ⟨rfl, hB4⟩
  have hlt3 := hS3.lt
  have hS4 := hS3.other (hB4.block B hlt3)
  have hE4 := (hE2.trans (Ex.of_below hB3)).trans (Ex.of_below hB4)
  have hl4 := stretchI_len (0 :: s1)
  generalize stretchI (0 :: s1) = s4 at *
  have hN4 := hS4.c
  have Hth := hid (show w4.there B 55 (ints .u8 s4).size from by
    have := hN4.there hg.cl
    rw [ints_size, hl4]
    simpa [hl1] using this)
  have Hi : Hd ((Try.prog.info? 117).map (·.size) = some (ints .u8 s4).size) := hid (by rw [ints_size, hl4]; exact Try.info117)
  have hN5 := hN4.setCells s4 (by rw [hl4]; exact hg.cl.symm)
  have hE5 := hE4.setCells 55 (ints .u8 s4).toList
  have hS5 := SgAt.of_c hN5
  rw [show (List.map (Value.int .u8) (⟨s1, g.c⟩ : SG).v).length = 55 from by simp [hl1]] at hS5
  clear hN4 hN5 hS4 hS3 hB3 hB4 hE2 hE4 hr3
  go_wp2_with (refine wpList_store_mid rfl 117 _ _ rfl B 55 (ints .u8 s4) rfl rfl Hth.out Hi.out (ints_one _ _) ?_)
  go_end0
  rw [He.out]
  exact ⟨rfl, hS5, hE5⟩
end Go.Proofs.Ytbifmhbkmnofiaa
