import Derived.Test.YtbifmhbkmnofiaaGb
namespace Go.Proofs.Ytbifmhbkmnofiaa
open Go.RowKit
set_option linter.unusedVariables false
set_option linter.unusedSimpArgs false
def rekeyG (g : MG) (m : Int) (xs : List Int) : MG := stepG ⟨macI g.k (g.v ++ (m :: xs)), g.v⟩
theorem rekeyG_eq (g : MG) (m : Int) (xs : List Int) : rekeyG g m xs = stepG ⟨macI g.k (g.v ++ (m :: xs)), g.v⟩ := by simp only [rekeyG]
theorem mk_ok {k v : List Int} (h1 : k.length = 32) (h2 : v.length = 32) : (⟨k, v⟩ : MG).ok := ⟨h1, h2⟩
theorem rekeyG_ok {g : MG} (h : g.ok) (m : Int) (xs : List Int) : (rekeyG g m xs).ok := by
  rw [rekeyG_eq]; exact stepG_ok (mk_ok (macI_len g.k (g.v ++ (m :: xs))) h.vl)
theorem Src.form {w : World} {v : Value} {xs : List Int} (h : Src w v xs) : ∃ ao cap, v = .slice ao xs.length cap := by
  rcases h with ⟨rfl, rfl⟩ | ⟨ad, cap, rfl, hc⟩
  · exact ⟨none, 0, rfl⟩
  · exact ⟨_, _, rfl⟩
/-- a new row of a few slices, and of one byte -/
theorem slv_new (w : World) (vs : List Value) (t : TypeId) (o : World → World) (cap : Nat) : SlV (w.alloc (.cells vs.toArray t)) (.slice (some ⟨w.heap.size, 0, none⟩) vs.length cap) vs :=
  ⟨_, cap, rfl, fun _ => ⟨w.heap.size, 0, rfl, fun j u hu => by
    rw [cell_of_row _ _ _ _ _ _ (al_new w (.cells vs.toArray t))]; simpa using hu⟩⟩
theorem src_one (w : World) (m : Int) (cap : Nat) : Src (w.alloc (.cells #[Value.int .u8 m] 5)) (.slice (some ⟨w.heap.size, 0, none⟩) 1 cap) [m] :=
  Or.inr ⟨_, cap, rfl, fun j u hu => by
    rw [Addr.add_mid, cell_of_row _ _ _ _ _ _ (al_new w (.cells #[Value.int .u8 m] 5))]; simpa using hu⟩
theorem slv_drew {w : World} {v : Value} {us : List Value} (h : SlV w v us) : SlV w.drew v us := h
theorem src_drew {w : World} {v : Value} {xs : List Int} (h : Src w v xs) : Src w.drew v xs := h
set_option maxRecDepth 20000 in
set_option maxHeartbeats 400000 in
theorem rekey_any (g : MG) (m : Int) (v : Value) (xs : List Int) (B : Nat) (w : World) (hg : g.ok) (hS : MgAt w B g) (hv : Src w v xs) (hx : xs.length ≤ 1000) :
    Calls Try.prog 84 #[.pointer (some ⟨B, 0, none⟩), .int .u8 m, v] w fun e w' => e = .returned (.tuple #[]) ∧ MgAt w' B (rekeyG g m xs) ∧ Ex B w w' := by
  have y1 : Src w (.slice (some ⟨B, 0, none⟩) 32 32) g.k := (hS.kByt hg).src
  have y2 : Src w (.slice (some ⟨B, 32, none⟩) 32 32) g.v := (hS.vByt hg).src
  have hlt := hS.lt
  have He := hid (rekeyG_eq g m xs)
  obtain ⟨ao, cp, hve⟩ := hv.form
  rw [hve] at hv
  rw [hve]
  clear hve
  have Y1 := hid y1
  have Y2 := hid y2
  have HS := hid hS
  have HV := hid hv
  clear y1 y2 hS hv
  go_enter Try.func84, Try.ntmps84
  refine wp_seq ?_
  refine wp_region_any (by kernel_rfl) ?_
  change wpAny _ _ _ _ _ _ _ (World.drew _)
  refine wpAny_take (i := 0) (v := ?_) rfl (by decide +kernel) (by decide +kernel) (by decide +kernel) (fun _ _ _ h => h) (Or.inl ⟨by rfl, ?_⟩) ?_
  rotate_left
  · intro w; go_simp; try with_reducible rfl
  simp only [Act.put, List.getElem_toArray, List.getElem_cons_zero, List.getElem_cons_succ, List.setIfInBounds_toArray, List.set_cons_zero, List.set_cons_succ]
  refine wpAny_take (i := 1) (v := ?_) rfl (by decide +kernel) (by decide +kernel) (by decide +kernel) (fun _ _ _ h => h) (Or.inl ⟨by rfl, ?_⟩) ?_
  rotate_left
  · intro w; go_simp; try with_reducible rfl
  simp only [Act.put, List.getElem_toArray, List.getElem_cons_zero, List.getElem_cons_succ, List.setIfInBounds_toArray, List.set_cons_zero, List.set_cons_succ]
  refine wpAny_take (i := 2) (v := ?_) rfl (by decide +kernel) (by decide +kernel) (by decide +kernel) (fun _ _ _ h => h) (Or.inl ⟨by rfl, ?_⟩) ?_
  rotate_left
  · intro w; go_simp; try with_reducible rfl
  simp only [Act.put, List.getElem_toArray, List.getElem_cons_zero, List.getElem_cons_succ, List.setIfInBounds_toArray, List.set_cons_zero, List.set_cons_succ]
  refine wpAny_take (i := 3) (v := ?_) rfl (by decide +kernel) (by decide +kernel) (by decide +kernel) (fun _ _ _ h => h) (Or.inl ⟨by rfl, ?_⟩) ?_
  rotate_left
  · intro w; go_simp; try with_reducible rfl
  simp only [Act.put, List.getElem_toArray, List.getElem_cons_zero, List.getElem_cons_succ, List.setIfInBounds_toArray, List.set_cons_zero, List.set_cons_succ]
  refine wpAny_take (i := 4) (v := ?_) rfl (by decide +kernel) (by decide +kernel) (by decide +kernel) (fun _ _ _ h => h) (Or.inl ⟨by rfl, ?_⟩) ?_
  rotate_left
  · intro w; go_simp; try with_reducible rfl
  simp only [Act.put, List.getElem_toArray, List.getElem_cons_zero, List.getElem_cons_succ, List.setIfInBounds_toArray, List.set_cons_zero, List.set_cons_succ]
  refine wpAny_take (i := 5) (v := ?_) rfl (by decide +kernel) (by decide +kernel) (by decide +kernel) (fun _ _ _ h => h) (Or.inl ⟨by rfl, ?_⟩) ?_
  rotate_left
  · intro w; go_simp; try with_reducible rfl
  simp only [Act.put, List.getElem_toArray, List.getElem_cons_zero, List.getElem_cons_succ, List.setIfInBounds_toArray, List.set_cons_zero, List.set_cons_succ]
  refine wpAny_take (i := 6) (v := ?_) rfl (by decide +kernel) (by decide +kernel) (by decide +kernel) (fun _ _ _ h => h) (Or.inl ⟨by rfl, ?_⟩) ?_
  rotate_left
  · intro w; go_simp; try with_reducible rfl
  simp only [Act.put, List.getElem_toArray, List.getElem_cons_zero, List.getElem_cons_succ, List.setIfInBounds_toArray, List.set_cons_zero, List.set_cons_succ]
  refine wpAny_take (i := 7) (v := ?_) rfl (by decide +kernel) (by decide +kernel) (by decide +kernel) (fun _ _ _ h => h) (Or.inl ⟨by rfl, ?_⟩) ?_
  rotate_left
  · intro w; go_simp; try with_reducible rfl
  simp only [Act.put, List.getElem_toArray, List.getElem_cons_zero, List.getElem_cons_succ, List.setIfInBounds_toArray, List.set_cons_zero, List.set_cons_succ]
  refine wpAny_take (i := 8) (v := ?_) rfl (by decide +kernel) (by decide +kernel) (by decide +kernel) (fun _ _ _ h => h) (Or.inl ⟨by rfl, ?_⟩) ?_
  rotate_left
  · intro w; go_simp; try with_reducible rfl
  simp only [Act.put, List.getElem_toArray, List.getElem_cons_zero, List.getElem_cons_succ, List.setIfInBounds_toArray, List.set_cons_zero, List.set_cons_succ]
  refine wpAny_take (i := 9) (v := ?_) rfl (by decide +kernel) (by decide +kernel) (by decide +kernel) (fun _ _ _ h => h) (Or.inl ⟨by rfl, ?_⟩) ?_
  rotate_left
  · intro w; go_simp; try with_reducible rfl
  simp only [Act.put, List.getElem_toArray, List.getElem_cons_zero, List.getElem_cons_succ, List.setIfInBounds_toArray, List.set_cons_zero, List.set_cons_succ]
  refine wpAny_take (i := 11) (v := ?_) rfl (by decide +kernel) (by decide +kernel) (by decide +kernel) (fun _ _ _ h => h) (Or.inl ⟨by rfl, ?_⟩) ?_
  rotate_left
  · intro w; go_simp; try with_reducible rfl
  simp only [Act.put, List.getElem_toArray, List.getElem_cons_zero, List.getElem_cons_succ, List.setIfInBounds_toArray, List.set_cons_zero, List.set_cons_succ]
  refine wpAny_ready (rs := [10]) (by kernel_rfl) (by simp) ?_
  refine AllReady.cons rfl (fun K hK => ?_) AllReady.nil
  go_simp
  refine hK _ _ ?_
  clear hK K
  have hB1 : Below w.heap.size w (w.alloc (.cells #[Value.int .u8 m] 5)) := (Below.refl _ _).alloc (Nat.le_refl _) _
  have hz1 := al_size w (.cells #[Value.int .u8 m] 5)
  have s1 := hid (src_one w m 1)
  generalize (w.alloc (.cells #[Value.int .u8 m] 5)) = w1 at *
  refine wpAny_ready (rs := [12]) (by kernel_rfl) (by simp) ?_
  refine AllReady.cons rfl (fun K hK => ?_) AllReady.nil
  go_simp
  refine hK _ _ ?_
  clear hK K
  have hv3 : SlV (w1.alloc (.cells #[Value.slice (some ⟨B, 32, none⟩) 32 32, Value.slice (some ⟨w.heap.size, 0, none⟩) 1 1, Value.slice ao xs.length cp] 35)) (.slice (some ⟨w.heap.size + 1, 0, none⟩) 3 3) ([(Value.slice (some ⟨B, 32, none⟩) 32 32, g.v), (Value.slice (some ⟨w.heap.size, 0, none⟩) 1 1, [m]), (Value.slice ao xs.length cp, xs)].map (·.1)) := by
    have := slv_new w1 [Value.slice (some ⟨B, 32, none⟩) 32 32, Value.slice (some ⟨w.heap.size, 0, none⟩) 1 1, Value.slice ao xs.length cp] 35 id 3
    rw [hz1] at this
    exact this
  have hB2 : Below w1.heap.size w1 (w1.alloc (.cells #[Value.slice (some ⟨B, 32, none⟩) 32 32, Value.slice (some ⟨w.heap.size, 0, none⟩) 1 1, Value.slice ao xs.length cp] 35)) := (Below.refl _ _).alloc (Nat.le_refl _) _
  generalize (w1.alloc (.cells #[Value.slice (some ⟨B, 32, none⟩) 32 32, Value.slice (some ⟨w.heap.size, 0, none⟩) 1 1, Value.slice ao xs.length cp] 35)) = w2 at *
  have hC2 : Below w.heap.size w w2 := hB1.trans (hB2.mono (by omega))
  have hsrc : ∀ p ∈ [(Value.slice (some ⟨B, 32, none⟩) 32 32, g.v), (Value.slice (some ⟨w.heap.size, 0, none⟩) 1 1, [m]), (Value.slice ao xs.length cp, xs)], Src w2 p.1 p.2 := by
    intro p hp
    simp only [List.mem_cons, List.not_mem_nil, or_false] at hp
    rcases hp with rfl | rfl | rfl
    · exact Y2.out.mono hC2
    · exact s1.out.mono hB2
    · exact HV.out.mono hC2
  have hsz : Hd (sizes [(Value.slice (some ⟨B, 32, none⟩) 32 32, g.v), (Value.slice (some ⟨w.heap.size, 0, none⟩) 1 1, [m]), (Value.slice ao xs.length cp, xs)] 3 = g.v ++ (m :: xs)) := hid (by simp [sizes])
  have hlen : (sizes [(Value.slice (some ⟨B, 32, none⟩) 32 32, g.v), (Value.slice (some ⟨w.heap.size, 0, none⟩) 1 1, [m]), (Value.slice ao xs.length cp, xs)] 3).length ≤ 1000000 := by
    rw [hsz.out]; simp [hg.vl]; omega
  refine wpAny_ready (rs := [13]) (by kernel_rfl) (by simp) ?_
  refine AllReady.cons rfl (fun K hK => ?_) AllReady.nil
  go_simp
  refine (concat_any _ _ _ (slv_drew hv3) (fun p hp => src_drew (hsrc p hp)) (by simp) hlen).mono ?_
  rintro e w3 ⟨r, rfl, hown, hB3⟩
  refine hK _ _ ?_
  clear hK K
  have hcat : Src w3 r (g.v ++ (m :: xs)) := by rw [← hsz.out]; exact hown.src
  have hC3 : Below w.heap.size w w3 := hC2.drew.trans (hB3.mono (by simpa using hC2.size))
  clear hown hB3 hC2 hsz hlen hsrc hv3 hB1 hB2 s1 hz1
  have Y3 := hid (Y1.out.mono hC3)
  have HS3 := hid (HS.out.other (hC3.block B hlt))
  clear Y1 Y2 HS HV
  refine wpAny_ready (rs := [14]) (by kernel_rfl) (by simp) ?_
  refine AllReady.cons rfl (fun K hK => ?_) AllReady.nil
  go_simp
  refine (DMac_any _ _ _ _ _ Y3.out.byt hcat.byt (by rw [hg.kl]; omega) (by simp [hg.vl]; omega)).mono ?_
  rintro e w4 ⟨rfl, hB4⟩
  refine hK _ _ ?_
  clear hK K
  have hlt3 := HS3.out.lt
  have H4 := HS3.out.other (hB4.block B hlt3)
  have hE4 : Ex B w w4 := (Ex.of_below hC3).trans (Ex.of_below hB4)
  have hml := macI_len g.k (g.v ++ (m :: xs))
  generalize macI g.k (g.v ++ (m :: xs)) = mm at *
  refine wpAny_take (i := 15) (v := ?_) rfl (by decide +kernel) (by decide +kernel) (by decide +kernel) (fun _ _ _ h => h) (Or.inl ⟨by rfl, ?_⟩) ?_
  rotate_left
  · intro w; go_simp; try with_reducible rfl
  simp only [Act.put, List.getElem_toArray, List.getElem_cons_zero, List.getElem_cons_succ, List.setIfInBounds_toArray, List.set_cons_zero, List.set_cons_succ]
  refine wpAny_take (i := 16) (v := ?_) rfl (by decide +kernel) (by decide +kernel) (by decide +kernel) (fun _ _ _ h => h) (Or.inl ⟨by rfl, ?_⟩) ?_
  rotate_left
  · intro w; go_simp; try with_reducible rfl
  simp only [Act.put, List.getElem_toArray, List.getElem_cons_zero, List.getElem_cons_succ, List.setIfInBounds_toArray, List.set_cons_zero, List.set_cons_succ]
  refine wpAny_ready (rs := [17]) (by kernel_rfl) (by simp) ?_
  refine AllReady.cons rfl (fun K hK => ?_) AllReady.nil
  rw [if_pos (by rfl)]
  refine wp_store_mid 68 _ _ rfl B 0 (ints .u8 mm) rfl rfl (by rw [ints_size, hml]; exact H4.there hg 0 32 (by omega)) (by rw [ints_size, hml]; exact Try.info68) (ints_one _ _) (hK _ _ ?_)
  clear hK K
  refine wpAny_done (by kernel_rfl) ?_ _
  have H5 := H4.setK mm (hml.trans hg.kl.symm)
  have hE5 := hE4.setCells 0 (ints .u8 mm).toList
  generalize w4.setCells B 0 (ints .u8 mm).toList = w5 at *
  clear H4 hE4 hcat Y3 HS3
  go_wp2_with fail
  refine (mstep_any _ B _ (mk_ok hml hg.vl) H5).mono ?_
  rintro e w6 ⟨rfl, hS6, hE6⟩
  go_wp2
  go_end0
  rw [He.out]
  exact ⟨rfl, hS6, hE5.trans hE6⟩
def stirG (g : MG) (xs : List Int) : MG := if xs = [] then rekeyG g 0 [] else rekeyG (rekeyG g 0 xs) 1 xs
theorem stirG_ok {g : MG} (h : g.ok) (xs : List Int) : (stirG g xs).ok := by
  unfold stirG
  split
  · exact rekeyG_ok h _ _
  · exact rekeyG_ok (rekeyG_ok h _ _) _ _
theorem Src.ex {w w' : World} {v : Value} {xs : List Int} {B : Nat} (h : Src w v xs) (hb : Ex B w w') (hB : ∀ ad n c, v = .slice (some ad) n c → 0 < n → ad.block ≠ B) : Src w' v xs := by
  rcases h with h | ⟨ad, cap, rfl, hc⟩
  · exact Or.inl h
  · refine Or.inr ⟨ad, cap, rfl, fun j u hu => ?_⟩
    have h1 := hc j u hu
    have hlt := World.block_lt_of_cell? w _ h1
    have hj : j < xs.length := by simpa using (List.getElem?_eq_some_iff.1 hu).1
    have hne : ad.block ≠ B := hB ad _ _ rfl (by omega)
    rw [← h1]
    have e1 : (ad.add j).block = ad.block := by unfold Addr.add; split <;> rfl
    have e2 := hb.block (ad.add j).block hlt (by rw [e1]; exact hne)
    unfold World.cell?
    rw [e2]
/-- no cell of the list lies in block B -/
def Off (v : Value) (B : Nat) : Prop := ∀ ad n c, v = .slice (some ad) n c → 0 < n → ad.block ≠ B
set_option maxRecDepth 20000 in
set_option maxHeartbeats 400000 in
theorem stir_any (g : MG) (v : Value) (xs : List Int) (B : Nat) (w : World) (hg : g.ok) (hS : MgAt w B g) (hv : Src w v xs) (hx : xs.length ≤ 1000) (ho : Off v B) :
    Calls Try.prog 83 #[.pointer (some ⟨B, 0, none⟩), v] w fun e w' => e = .returned (.tuple #[]) ∧ MgAt w' B (stirG g xs) ∧ Ex B w w' := by
  obtain ⟨ao, cp, hve⟩ := hv.form
  rw [hve] at hv ho
  rw [hve]
  clear hve
  have HV := hid hv
  have HO := hid ho
  clear hv ho
  go_enter Try.func83, Try.ntmps83
  go_wp2_with fail
  refine (rekey_any g 0 _ xs B _ hg hS HV.out hx).mono ?_
  rintro e w1 ⟨rfl, hS1, hE1⟩
  have HV1 := hid (HV.out.ex hE1 HO.out)
  by_cases h0 : xs = []
  · subst h0
    go_wp2
    go_end0
    exact ⟨rfl, by rw [stirG, if_pos rfl]; exact hS1, hE1⟩
  · have hp : 0 < xs.length := List.length_pos_iff.2 h0
    have hp' : (0 : Int) < xs.length := by omega
    have hg1 := rekeyG_ok hg 0 xs
    have He : Hd (stirG g xs = rekeyG (rekeyG g 0 xs) 1 xs) := hid (by rw [stirG, if_neg h0])
    generalize rekeyG g 0 xs = g1 at *
    clear h0
    go_wp2_with fail
    refine (rekey_any g1 1 _ xs B _ hg1 hS1 HV1.out hx).mono ?_
    rintro e w2 ⟨rfl, hS2, hE2⟩
    go_wp2
    go_end0
    rw [He.out]
    exact ⟨rfl, hS2, hE1.trans hE2⟩
set_option maxHeartbeats 400000 in
theorem mreseed_any (g : MG) (v : Value) (xs : List Int) (B : Nat) (w : World) (hg : g.ok) (hS : MgAt w B g) (hv : Src w v xs) (hx : xs.length ≤ 1000) (ho : Off v B) :
    Calls Try.prog 80 #[.pointer (some ⟨B, 0, none⟩), v] w fun e w' => e = .returned (.tuple #[]) ∧ MgAt w' B (stirG g xs) ∧ Ex B w w' := by
  go_enter Try.func80, Try.ntmps80
  go_wp2_with fail
  refine (stir_any g v xs B _ hg hS hv hx ho).mono ?_
  rintro e w1 ⟨rfl, hS1, hE1⟩
  go_wp2
  go_end0
  exact ⟨rfl, hS1, hE1⟩
end Go.Proofs.Ytbifmhbkmnofiaa
