import Derived.Test.YtbifmhbkmnofiaaGreatMe
import Derived.Lib.AppendZerosOnto
import Derived.Lib.Walk
import Derived.Laws.AppendOwnNone
namespace Go.Proofs.YtbifmhbkmnofiaaGreat
open Go.RowKit
set_option linter.unusedVariables false
set_option linter.unusedSimpArgs false
/-- a slice whose elements are these values -/
def SlV (w : World) (v : Value) (us : List Value) : Prop := ∃ a cap, v = .slice a us.length cap ∧ (0 < us.length → ∃ db off, a = some ⟨db, off, none⟩ ∧ ∀ j u, us[j]? = some u → w.cell? ⟨db, off + j, none⟩ = some u)
theorem bts_take (s : ByteArray) (n : Nat) (h : n ≤ s.size) : bts (s.extract 0 n) = (bts s).take n := by
  unfold bts
  rw [← List.map_take]
  congr 1
  rw [ByteArray.data_extract, Array.toList_extract]
  simp [List.extract]
theorem bts_mid (s : ByteArray) (a n : Nat) (h : a + n ≤ s.size) : bts (s.extract a (a + n)) = ((bts s).drop a).take n := by
  unfold bts
  rw [← List.map_drop, ← List.map_take]
  congr 1
  rw [ByteArray.data_extract, Array.toList_extract]
  simp [List.extract]
theorem feed_mid (d : DS) (xs : List Int) (a n : Nat) (h : a + n ≤ xs.length) : feed (feed d (xs.take a)) ((xs.drop a).take n) = feed d (xs.take (a + n)) := by
  rw [← feed_append, List.take_add]
theorem Add_byt2 (s : DS) (xs : List Int) (B : Nat) (v : Value) (w : World) (hs : s.ok) (hS : StAt w B s) (hv : Byt w v xs) (hne : ∀ ad n cap, v = .slice (some ad) n cap → ad.block ≠ B) (hn : s.n + xs.length < 4611686018427387904) :
    Calls Tryz.prog 58 #[.pointer (some ⟨B, 0, none⟩), v] w fun e w' => e = .returned (.tuple #[]) ∧ StAt w' B (feed s xs) ∧ Ex B w w' := by
  rcases hv with ⟨rfl, a, cap, rfl⟩ | ⟨db, off, cap, rfl, hc⟩
  · exact (Add_empty s B cap a w).mono fun e w' ⟨h1, h2⟩ => ⟨h1, by rw [h2]; exact hS, by rw [h2]; exact Ex.refl _ _⟩
  · exact Add_any s xs B db off cap w hs hS (hne _ _ _ rfl) hc hn
set_option maxHeartbeats 400000 in
theorem SAdd2 (s : DS) (xs : List Int) (B : Nat) (v : Value) (w : World) (hs : s.ok) (hS : StAt w B s) (hv : Byt w v xs) (hne : ∀ ad n cap, v = .slice (some ad) n cap → ad.block ≠ B) (hn : s.n + xs.length < 4611686018427387904) (hl : xs.length ≤ 300) :
    Calls Tryz.prog 26 #[.pointer (some ⟨B, 0, none⟩), v] w fun e w' => e = .returned (.int .i64 0) ∧ StAt w' B (feed s xs) ∧ Ex B w w' := by
  have Hc := hid (Add_byt2 s xs B v w hs hS hv hne hn)
  obtain ⟨a, cap, rfl, _⟩ := hv.form
  have hl' : (xs.length : Int) ≤ 300 := by omega
  clear hv hne
  go_enter Tryz.func26, Tryz.ntmps26
  go_wp2_with fail
  refine Hc.out.mono ?_
  rintro e w2 ⟨rfl, hS2, hE2⟩
  go_wp2
  go_ret
  exact ⟨rfl, hS2, hE2⟩
end Go.Proofs.YtbifmhbkmnofiaaGreat
namespace Go.Proofs.YtbifmhbkmnofiaaGreat
open Go.RowKit
set_option linter.unusedVariables false
set_option linter.unusedSimpArgs false
/-- bytes that are handed on -/
def Src (w : World) (v : Value) (xs : List Int) : Prop :=
  (xs = [] ∧ v = .slice none 0 0) ∨ (∃ ad cap, v = .slice (some ad) xs.length cap ∧ ∀ j u, (xs.map (Value.int .u8))[j]? = some u → w.cell? (ad.add j) = some u)
theorem Src.mono {w w' : World} {v : Value} {xs : List Int} (h : Src w v xs) (hb : Below w.heap.size w w') : Src w' v xs := by
  rcases h with h | ⟨ad, cap, rfl, hc⟩
  · exact Or.inl h
  · refine Or.inr ⟨ad, cap, rfl, fun j u hu => ?_⟩
    have := hc j u hu
    rw [hb.cell (World.block_lt_of_cell? w _ this)]; exact this
theorem Src.nil (w : World) : Src w (.slice none 0 0) [] := Or.inl ⟨rfl, rfl⟩
/-- bytes of a row that the call owns -/
def OwnB (w : World) (N : Nat) (v : Value) (xs : List Int) : Prop := w.ownsRow N 5 1 v xs.length (xs.map (Value.int .u8))
set_option maxHeartbeats 1000000 in
set_option maxRecDepth 20000 in
theorem grow_any (n : Nat) (w : World) (hn : n ≤ 1000000) :
    Calls Tryz.prog 114 #[.slice none 0 0, .int .i64 n] w fun e w' => ∃ v, e = .returned v ∧ OwnB w' w.heap.size v [] ∧ Below w.heap.size w w' := by
  obtain ⟨i0, hi, hz0, hz1, hz2⟩ := info_parts Tryz.infoB
  by_cases h0 : n = 0
  · subst h0
    go_enter Tryz.func114, Tryz.ntmps114
    go_wp2
    go_ret
    exact ⟨_, rfl, World.ownsRow_nil _ _ _ _, Below.refl _ _⟩
  · have hp : 0 < n := by omega
    have hp' : (0 : Int) < n := by omega
    have hrz : ∀ ty, (Builtin.append_ #[41, 3] ty #[.slice none 0 0, .int .i64 (n : Int)]).run Tryz.prog w =
      .ok (.slice (some ⟨w.heap.size, 0, none⟩) (0 + n) (grownCap w (0 + n) 0 5)) (w.drew.alloc (.cells ((#[] : Array Value) ++ Builtin.zeroCells (Value.int .u8 0).cells n ++ Builtin.zeroCells (Value.int .u8 0).cells (grownCap w (0 + n) 0 5 - (0 + n))) 5)) := fun ty => by
      have hold : (Builtin.firstCells i0.size 0 (.slice none 0 0)).run Tryz.prog w.drew = .ok ([] : List Value).toArray w.drew := run_firstCells_none w.drew i0.size 0 0 0
      exact Lib.run_append_grow_zeros w 41 3 ty 5 i0 (.int .u8 0) .i64 .i64 Tryz.underlying41 Tryz.underlying3 hi hz0 none 0 0 [] hold n hp (by omega) (by omega) (by omega) (by rw [hz2]; omega)
        (growslice_fits (by omega) (by rw [hz2]; omega))
    have hGn : 0 + n ≤ grownCap w (0 + n) 0 5 := grownCap_ge w _ _ _
    have hG63 : grownCap w (0 + n) 0 5 ≤ maxLen := grownCap_le_maxLen w (0 + n) 0 5 (by unfold maxLen; omega)
    rw [Nat.zero_add] at hrz hGn hG63
    generalize grownCap w n 0 5 = G at *
    have hG64 : G ≤ 9223372036854775807 := by unfold maxLen at hG63; omega
    go_enter Tryz.func114, Tryz.ntmps114
    go_wp2_with (at_builtin; refine Lib.wpList_append_run _ rfl _ _ _ _ rfl _ _ rfl rfl _ _ (hrz _) ?_)
    all_goals (go_ret; refine ⟨_, rfl, ⟨by simp, .inr ⟨w.heap.size, G, _, rfl, Nat.le_refl _, al_new _ _, by simp, hG63, ?_, by simp⟩⟩, ((Below.refl _ _).drew).alloc (Nat.le_refl _) _⟩)
    all_goals simp [Builtin.zeroCells]
    all_goals omega
theorem OwnB.src {w : World} {N : Nat} {v : Value} {xs : List Int} (h : OwnB w N v xs) : Src w v xs := by
  rcases h.2 with ⟨rfl, h0⟩ | ⟨g, cap, cur, rfl, hN, hgg, _, _, _, htake⟩
  · exact Or.inl ⟨List.eq_nil_of_length_eq_zero h0, rfl⟩
  · refine Or.inr ⟨_, cap, rfl, fun j u hu => ?_⟩
    exact World.ownsRow.cells h (g := g) rfl j u hu
theorem Src.byt {w : World} {v : Value} {xs : List Int} (h : Src w v xs) : Byt w v xs := by
  rcases h with ⟨rfl, rfl⟩ | ⟨ad, cap, rfl, hc⟩
  · exact Or.inl ⟨rfl, none, 0, rfl⟩
  · by_cases h0 : xs = []
    · subst h0; exact Or.inl ⟨rfl, _, _, rfl⟩
    · have hp : 0 < xs.length := List.length_pos_iff.2 h0
      obtain ⟨b, o, sp⟩ := ad
      cases sp with
      | some s =>
        exfalso
        have := hc 0 (.int .u8 xs[0]) (by simp [List.getElem?_eq_getElem hp])
        revert this
        unfold World.cell? Addr.add
        split <;> simp
      | none =>
        refine Or.inr ⟨b, o, cap, rfl, fun j hj => ?_⟩
        have := hc j (.int .u8 xs[j]) (by simp [List.getElem?_eq_getElem hj])
        rw [Addr.add_mid] at this
        rw [this, List.getElem?_eq_getElem hj]; rfl
theorem Byt.src {w : World} {a : Addr} {n cap : Nat} {xs : List Int} (h : Byt w (.slice (some a) n cap) xs) : Src w (.slice (some a) n cap) xs := by
  rcases h with ⟨rfl, a', cap', h⟩ | ⟨db, off, cap', h, hc⟩
  · simp only [Value.slice.injEq] at h
    obtain ⟨_, rfl, _⟩ := h
    exact Or.inr ⟨a, cap, rfl, fun j u hu => by simp at hu⟩
  · simp only [Value.slice.injEq, Option.some.injEq] at h
    obtain ⟨rfl, rfl, rfl⟩ := h
    refine Or.inr ⟨_, cap, rfl, fun j u hu => ?_⟩
    have hj : j < xs.length := by simpa using (List.getElem?_eq_some_iff.1 hu).1
    rw [Addr.add_mid, hc j hj, ← hu]
    simp [List.getElem?_eq_getElem hj]
def sizes (ps : List (Value × List Int)) (k : Nat) : List Int := ((ps.take k).map (·.2)).flatten
theorem sizes_succ (ps : List (Value × List Int)) (k : Nat) (h : k < ps.length) : sizes ps (k + 1) = sizes ps k ++ (ps[k]).2 := by
  unfold sizes
  rw [List.take_succ_eq_append_getElem h, List.map_append, List.flatten_append]
  simp only [List.map_cons, List.map_nil, List.flatten_cons, List.flatten_nil, List.append_nil]
theorem sizes_le (ps : List (Value × List Int)) (k : Nat) : (sizes ps k).length ≤ (sizes ps ps.length).length := by
  unfold sizes
  rw [List.take_length]
  conv => rhs; rw [← List.take_append_drop k ps]
  rw [List.map_append, List.flatten_append, List.length_append]; omega
set_option maxHeartbeats 1000000 in
set_option maxRecDepth 20000 in
theorem concat_any (v : Value) (ps : List (Value × List Int)) (w : World) (hv : SlV w v (ps.map (·.1))) (hs : ∀ p ∈ ps, Src w p.1 p.2) (hl : ps.length ≤ 1000) (hn : (sizes ps ps.length).length ≤ 1000000) :
    Calls Tryz.prog 113 #[v] w fun e w' => ∃ r, e = .returned r ∧ OwnB w' w.heap.size r (sizes ps ps.length) ∧ Below w.heap.size w w' := by
  obtain ⟨i0, hi, hz0, hz1, hz2⟩ := info_parts Tryz.infoB
  obtain ⟨a, cap, rfl, hcell⟩ := hv
  rw [List.length_map] at hcell
  rw [List.length_map]
  have Hs := hid hs
  have Hcell := hid hcell
  clear hs hcell
  go_enter Tryz.func113, Tryz.ntmps113
  go_wp2
  go_loop [3, 11] (fun sz i => ∃ k : Nat, k ≤ ps.length ∧ i = .int .i64 k ∧ sz = .int .i64 ((sizes ps k).length : Nat)) (fun _ i => ps.length - (intOf i).toNat)
  case atStart => exact ⟨0, by omega, rfl, rfl⟩
  case round =>
    obtain ⟨k, hk, rfl, rfl⟩ := hrel
    have hle := sizes_le ps k
    by_cases hlt : k < ps.length
    · obtain ⟨db, off, rfl, hc⟩ := Hcell.out (by omega)
      have c1 := hc k (ps[k]).1 (by simp [List.getElem?_eq_getElem hlt])
      have hsr := Hs.out ps[k] (List.getElem_mem hlt)
      have hsu := hid (sizes_succ ps k hlt)
      have hle2 := sizes_le ps (k + 1)
      have hlt' : (k : Int) < ps.length := by omega
      obtain ⟨ao, n, cc, hval, hnl⟩ : ∃ ao n cc, ps[k].1 = .slice ao n cc ∧ n = ps[k].2.length := by
        rcases hsr with ⟨h1, h2⟩ | ⟨ad, cp, h2, _⟩
        · exact ⟨_, _, _, h2, by rw [h1]; rfl⟩
        · exact ⟨_, _, _, h2, rfl⟩
      rw [hval] at c1
      have hsum : Hd ((sizes ps (k + 1)).length = (sizes ps k).length + n) := hid (by rw [hsu.out, List.length_append, hnl])
      have hn2 : (sizes ps k).length + n ≤ 1000000 := by have := hsum.out; omega
      clear hval hsr hc hnl hle2 hle
      generalize (sizes ps k).length = m at *
      have hnn : ¬ ((m : Int) + n < 0) := by omega
      go_wp2
      go_round
      case rel => exact ⟨k + 1, by omega, by go_num, by rw [hsum.out]; go_num⟩
      case measure => simp [intOf]; omega
    · obtain rfl : k = ps.length := by omega
      generalize hm : (sizes ps ps.length).length = m at *
      go_wp2_with fail
      refine (grow_any m _ (by omega)).mono ?_
      rintro e w2 ⟨r, rfl, hown, hB2⟩
      subst hm
      go_wp2
      go_loopw [6, 27] (fun r i wr => ∃ k : Nat, k ≤ ps.length ∧ i = .int .i64 k ∧ OwnB wr w.heap.size r (sizes ps k) ∧ Below w.heap.size w wr) (fun _ i _ => ps.length - (intOf i).toNat)
      case atStart => exact ⟨0, by omega, rfl, hown, hB2⟩
      case round =>
        clear hown hB2
        obtain ⟨k, hk, rfl, hown, hB⟩ := hrel
        have hle := sizes_le ps k
        by_cases hlt : k < ps.length
        · obtain ⟨db, off, rfl, hc⟩ := Hcell.out (by omega)
          have c0 := hc k (ps[k]).1 (by simp [List.getElem?_eq_getElem hlt])
          have c1 : wr.cell? ⟨db, off + k, none⟩ = some (ps[k]).1 := by rw [hB.cell (World.block_lt_of_cell? w _ c0)]; exact c0
          have hsr := (Hs.out ps[k] (List.getElem_mem hlt)).mono hB
          have hsu := hid (sizes_succ ps k hlt)
          have hle2 := sizes_le ps (k + 1)
          have hlt' : (k : Int) < ps.length := by omega
          have hsum : (sizes ps (k + 1)).length = (sizes ps k).length + ps[k].2.length := by rw [hsu.out, List.length_append]
          have Hown := hid hown
          clear hown hc c0
          rcases hsr with ⟨h1, h2⟩ | ⟨ad, cp, h2, hnews⟩
          · rw [h2] at c1
            have hsu2 : Hd (sizes ps (k + 1) = sizes ps k) := hid (by rw [hsu.out, h1, List.append_nil])
            clear hsu h1 h2 hsum hle2
            go_wp2_with (at_builtin; refine wpList_append_own_none rfl _ _ 41 rfl w.heap.size 5 i0 1 Tryz.underlying41 hi _ _ _ rfl Hown.out rfl ?_)
            go_wp2
            exact ⟨⟨k + 1, by omega, by go_num, by rw [hsu2.out]; exact Hown.out, hB⟩, by simp [intOf]; omega⟩
          · rw [h2] at c1
            clear h2
            have Hnews := hid hnews
            clear hnews
            generalize ps[k].2 = xs at *
            go_wp2_with (at_builtin; refine wpList_append_own _ rfl _ _ 41 rfl w.heap.size 5 i0 (.int .u8 0) 1 1 Tryz.underlying41 hi hz0 hz1 hz2 rfl (by decide) _ _ _ rfl Hown.out _ _ _ (xs.map (Value.int .u8)) rfl (by simp) Hnews.out (one_ints _ _) (by unfold maxLen; omega) (by omega) hB.size ?_)
            intro v' w1 hown' hgrow _
            have hown2 : OwnB w1 w.heap.size v' (sizes ps (k + 1)) := by
              unfold OwnB
              rw [hsu.out, List.length_append, List.map_append]
              exact hown'
            have hB2 : Below w.heap.size w w1 := hB.grown hgrow hB.size (fun j hj => (World.ownsRow.lt Hown.out j hj).1)
            clear hown' hgrow
            go_wp2
            exact ⟨⟨k + 1, by omega, by go_num, hown2, hB2⟩, by simp [intOf]; omega⟩
        · obtain rfl : k = ps.length := by omega
          go_wp2
          go_ret
          exact ⟨_, rfl, hown, hB⟩
end Go.Proofs.YtbifmhbkmnofiaaGreat
namespace Go.Proofs.YtbifmhbkmnofiaaGreat
open Go.RowKit
set_option linter.unusedVariables false
set_option linter.unusedSimpArgs false
def rekeyG (g : MG) (m : Int) (xs : List Int) : MG := stepG ⟨macI g.k (g.v ++ (m :: xs)), g.v⟩
theorem rekeyG_eq (g : MG) (m : Int) (xs : List Int) : rekeyG g m xs = stepG ⟨macI g.k (g.v ++ (m :: xs)), g.v⟩ := by simp only [rekeyG]
theorem mk_ok {k v : List Int} (h1 : k.length = 32) (h2 : v.length = 32) : (⟨k, v⟩ : MG).ok := ⟨h1, h2⟩
theorem rekeyG_ok {g : MG} (h : g.ok) (m : Int) (xs : List Int) : (rekeyG g m xs).ok := by
  rw [rekeyG_eq]; exact stepG_ok (mk_ok (macI_len g.k (g.v ++ (m :: xs))) h.vl)
theorem Src.form {w : World} {v : Value} {xs : List Int} (h : Src w v xs) : ∃ ao cap, v = .slice ao xs.length cap := by
  rcases h with ⟨rfl, rfl⟩ | ⟨ad, cap, rfl, hc⟩
  · exact ⟨none, 0, rfl⟩
  · exact ⟨_, _, rfl⟩
/-- a new row of a few slices, and of one byte -/
theorem slv_new (w : World) (vs : List Value) (t : TypeId) (o : World → World) (cap : Nat) : SlV (w.alloc (.cells vs.toArray t)) (.slice (some ⟨w.heap.size, 0, none⟩) vs.length cap) vs :=
  ⟨_, cap, rfl, fun _ => ⟨w.heap.size, 0, rfl, fun j u hu => by
    rw [cell_of_row _ _ _ _ _ _ (al_new w (.cells vs.toArray t))]; simpa using hu⟩⟩
theorem src_one (w : World) (m : Int) (cap : Nat) : Src (w.alloc (.cells #[Value.int .u8 m] 5)) (.slice (some ⟨w.heap.size, 0, none⟩) 1 cap) [m] :=
  Or.inr ⟨_, cap, rfl, fun j u hu => by
    rw [Addr.add_mid, cell_of_row _ _ _ _ _ _ (al_new w (.cells #[Value.int .u8 m] 5))]; simpa using hu⟩
theorem slv_drew {w : World} {v : Value} {us : List Value} (h : SlV w v us) : SlV w.drew v us := h
theorem src_drew {w : World} {v : Value} {xs : List Int} (h : Src w v xs) : Src w.drew v xs := h
set_option maxRecDepth 20000 in
set_option maxHeartbeats 400000 in
theorem rekey_any (g : MG) (m : Int) (v : Value) (xs : List Int) (B : Nat) (w : World) (hg : g.ok) (hS : MgAt w B g) (hv : Src w v xs) (hx : xs.length ≤ 1000) :
    Calls Tryz.prog 112 #[.pointer (some ⟨B, 0, none⟩), .int .u8 m, v] w fun e w' => e = .returned (.tuple #[]) ∧ MgAt w' B (rekeyG g m xs) ∧ Ex B w w' := by
  have y1 : Src w (.slice (some ⟨B, 0, none⟩) 32 32) g.k := (hS.kByt hg).src
  have y2 : Src w (.slice (some ⟨B, 32, none⟩) 32 32) g.v := (hS.vByt hg).src
  have hlt := hS.lt
  have He := hid (rekeyG_eq g m xs)
  obtain ⟨ao, cp, hve⟩ := hv.form
  rw [hve] at hv
  rw [hve]
  clear hve
  have Y1 := hid y1
  have Y2 := hid y2
  have HS := hid hS
  have HV := hid hv
  clear y1 y2 hS hv
  go_enter Tryz.func112, Tryz.ntmps112
  refine wp_seq ?_
  refine wp_region_any (by kernel_rfl) ?_
  change wpAny _ _ _ _ _ _ _ (World.drew _)
  refine wpAny_take (i := 0) (v := ?_) rfl (by decide +kernel) (by decide +kernel) (by decide +kernel) (fun _ _ _ h => h) (Or.inl ⟨by rfl, ?_⟩) ?_
  rotate_left
  · intro w; go_simp; try with_reducible rfl
  simp only [Act.put, List.getElem_toArray, List.getElem_cons_zero, List.getElem_cons_succ, List.setIfInBounds_toArray, List.set_cons_zero, List.set_cons_succ]
  refine wpAny_take (i := 1) (v := ?_) rfl (by decide +kernel) (by decide +kernel) (by decide +kernel) (fun _ _ _ h => h) (Or.inl ⟨by rfl, ?_⟩) ?_
  rotate_left
  · intro w; go_simp; try with_reducible rfl
  simp only [Act.put, List.getElem_toArray, List.getElem_cons_zero, List.getElem_cons_succ, List.setIfInBounds_toArray, List.set_cons_zero, List.set_cons_succ]
  refine wpAny_take (i := 2) (v := ?_) rfl (by decide +kernel) (by decide +kernel) (by decide +kernel) (fun _ _ _ h => h) (Or.inl ⟨by rfl, ?_⟩) ?_
  rotate_left
  · intro w; go_simp; try with_reducible rfl
  simp only [Act.put, List.getElem_toArray, List.getElem_cons_zero, List.getElem_cons_succ, List.setIfInBounds_toArray, List.set_cons_zero, List.set_cons_succ]
  refine wpAny_take (i := 3) (v := ?_) rfl (by decide +kernel) (by decide +kernel) (by decide +kernel) (fun _ _ _ h => h) (Or.inl ⟨by rfl, ?_⟩) ?_
  rotate_left
  · intro w; go_simp; try with_reducible rfl
  simp only [Act.put, List.getElem_toArray, List.getElem_cons_zero, List.getElem_cons_succ, List.setIfInBounds_toArray, List.set_cons_zero, List.set_cons_succ]
  refine wpAny_take (i := 4) (v := ?_) rfl (by decide +kernel) (by decide +kernel) (by decide +kernel) (fun _ _ _ h => h) (Or.inl ⟨by rfl, ?_⟩) ?_
  rotate_left
  · intro w; go_simp; try with_reducible rfl
  simp only [Act.put, List.getElem_toArray, List.getElem_cons_zero, List.getElem_cons_succ, List.setIfInBounds_toArray, List.set_cons_zero, List.set_cons_succ]
  refine wpAny_take (i := 5) (v := ?_) rfl (by decide +kernel) (by decide +kernel) (by decide +kernel) (fun _ _ _ h => h) (Or.inl ⟨by rfl, ?_⟩) ?_
  rotate_left
  · intro w; go_simp; try with_reducible rfl
  simp only [Act.put, List.getElem_toArray, List.getElem_cons_zero, List.getElem_cons_succ, List.setIfInBounds_toArray, List.set_cons_zero, List.set_cons_succ]
  refine wpAny_take (i := 6) (v := ?_) rfl (by decide +kernel) (by decide +kernel) (by decide +kernel) (fun _ _ _ h => h) (Or.inl ⟨by rfl, ?_⟩) ?_
  rotate_left
  · intro w; go_simp; try with_reducible rfl
  simp only [Act.put, List.getElem_toArray, List.getElem_cons_zero, List.getElem_cons_succ, List.setIfInBounds_toArray, List.set_cons_zero, List.set_cons_succ]
  refine wpAny_take (i := 7) (v := ?_) rfl (by decide +kernel) (by decide +kernel) (by decide +kernel) (fun _ _ _ h => h) (Or.inl ⟨by rfl, ?_⟩) ?_
  rotate_left
  · intro w; go_simp; try with_reducible rfl
  simp only [Act.put, List.getElem_toArray, List.getElem_cons_zero, List.getElem_cons_succ, List.setIfInBounds_toArray, List.set_cons_zero, List.set_cons_succ]
  refine wpAny_take (i := 8) (v := ?_) rfl (by decide +kernel) (by decide +kernel) (by decide +kernel) (fun _ _ _ h => h) (Or.inl ⟨by rfl, ?_⟩) ?_
  rotate_left
  · intro w; go_simp; try with_reducible rfl
  simp only [Act.put, List.getElem_toArray, List.getElem_cons_zero, List.getElem_cons_succ, List.setIfInBounds_toArray, List.set_cons_zero, List.set_cons_succ]
  refine wpAny_take (i := 9) (v := ?_) rfl (by decide +kernel) (by decide +kernel) (by decide +kernel) (fun _ _ _ h => h) (Or.inl ⟨by rfl, ?_⟩) ?_
  rotate_left
  · intro w; go_simp; try with_reducible rfl
  simp only [Act.put, List.getElem_toArray, List.getElem_cons_zero, List.getElem_cons_succ, List.setIfInBounds_toArray, List.set_cons_zero, List.set_cons_succ]
  refine wpAny_take (i := 11) (v := ?_) rfl (by decide +kernel) (by decide +kernel) (by decide +kernel) (fun _ _ _ h => h) (Or.inl ⟨by rfl, ?_⟩) ?_
  rotate_left
  · intro w; go_simp; try with_reducible rfl
  simp only [Act.put, List.getElem_toArray, List.getElem_cons_zero, List.getElem_cons_succ, List.setIfInBounds_toArray, List.set_cons_zero, List.set_cons_succ]
  refine wpAny_ready (rs := [10]) (by kernel_rfl) (by simp) ?_
  refine AllReady.cons rfl (fun K hK => ?_) AllReady.nil
  go_simp
  refine hK _ _ ?_
  clear hK K
  have hB1 : Below w.heap.size w (w.alloc (.cells #[Value.int .u8 m] 5)) := (Below.refl _ _).alloc (Nat.le_refl _) _
  have hz1 := al_size w (.cells #[Value.int .u8 m] 5)
  have s1 := hid (src_one w m 1)
  generalize (w.alloc (.cells #[Value.int .u8 m] 5)) = w1 at *
  refine wpAny_ready (rs := [12]) (by kernel_rfl) (by simp) ?_
  refine AllReady.cons rfl (fun K hK => ?_) AllReady.nil
  go_simp
  refine hK _ _ ?_
  clear hK K
  have hv3 : SlV (w1.alloc (.cells #[Value.slice (some ⟨B, 32, none⟩) 32 32, Value.slice (some ⟨w.heap.size, 0, none⟩) 1 1, Value.slice ao xs.length cp] 41)) (.slice (some ⟨w.heap.size + 1, 0, none⟩) 3 3) ([(Value.slice (some ⟨B, 32, none⟩) 32 32, g.v), (Value.slice (some ⟨w.heap.size, 0, none⟩) 1 1, [m]), (Value.slice ao xs.length cp, xs)].map (·.1)) := by
    have := slv_new w1 [Value.slice (some ⟨B, 32, none⟩) 32 32, Value.slice (some ⟨w.heap.size, 0, none⟩) 1 1, Value.slice ao xs.length cp] 41 id 3
    rw [hz1] at this
    exact this
  have hB2 : Below w1.heap.size w1 (w1.alloc (.cells #[Value.slice (some ⟨B, 32, none⟩) 32 32, Value.slice (some ⟨w.heap.size, 0, none⟩) 1 1, Value.slice ao xs.length cp] 41)) := (Below.refl _ _).alloc (Nat.le_refl _) _
  generalize (w1.alloc (.cells #[Value.slice (some ⟨B, 32, none⟩) 32 32, Value.slice (some ⟨w.heap.size, 0, none⟩) 1 1, Value.slice ao xs.length cp] 41)) = w2 at *
  have hC2 : Below w.heap.size w w2 := hB1.trans (hB2.mono (by omega))
  have hsrc : ∀ p ∈ [(Value.slice (some ⟨B, 32, none⟩) 32 32, g.v), (Value.slice (some ⟨w.heap.size, 0, none⟩) 1 1, [m]), (Value.slice ao xs.length cp, xs)], Src w2 p.1 p.2 := by
    intro p hp
    simp only [List.mem_cons, List.not_mem_nil, or_false] at hp
    rcases hp with rfl | rfl | rfl
    · exact Y2.out.mono hC2
    · exact s1.out.mono hB2
    · exact HV.out.mono hC2
  have hsz : Hd (sizes [(Value.slice (some ⟨B, 32, none⟩) 32 32, g.v), (Value.slice (some ⟨w.heap.size, 0, none⟩) 1 1, [m]), (Value.slice ao xs.length cp, xs)] 3 = g.v ++ (m :: xs)) := hid (by simp [sizes])
  have hlen : (sizes [(Value.slice (some ⟨B, 32, none⟩) 32 32, g.v), (Value.slice (some ⟨w.heap.size, 0, none⟩) 1 1, [m]), (Value.slice ao xs.length cp, xs)] 3).length ≤ 1000000 := by
    rw [hsz.out]; simp [hg.vl]; omega
  refine wpAny_ready (rs := [13]) (by kernel_rfl) (by simp) ?_
  refine AllReady.cons rfl (fun K hK => ?_) AllReady.nil
  go_simp
  refine (concat_any _ _ _ (slv_drew hv3) (fun p hp => src_drew (hsrc p hp)) (by simp) hlen).mono ?_
  rintro e w3 ⟨r, rfl, hown, hB3⟩
  refine hK _ _ ?_
  clear hK K
  have hcat : Src w3 r (g.v ++ (m :: xs)) := by rw [← hsz.out]; exact hown.src
  have hC3 : Below w.heap.size w w3 := hC2.drew.trans (hB3.mono (by simpa using hC2.size))
  clear hown hB3 hC2 hsz hlen hsrc hv3 hB1 hB2 s1 hz1
  have Y3 := hid (Y1.out.mono hC3)
  have HS3 := hid (HS.out.other (hC3.block B hlt))
  clear Y1 Y2 HS HV
  refine wpAny_ready (rs := [14]) (by kernel_rfl) (by simp) ?_
  refine AllReady.cons rfl (fun K hK => ?_) AllReady.nil
  go_simp
  refine (DMac_any _ _ _ _ _ Y3.out.byt hcat.byt (by rw [hg.kl]; omega) (by simp [hg.vl]; omega)).mono ?_
  rintro e w4 ⟨rfl, hB4⟩
  refine hK _ _ ?_
  clear hK K
  have hlt3 := HS3.out.lt
  have H4 := HS3.out.other (hB4.block B hlt3)
  have hE4 : Ex B w w4 := (Ex.of_below hC3).trans (Ex.of_below hB4)
  have hml := macI_len g.k (g.v ++ (m :: xs))
  generalize macI g.k (g.v ++ (m :: xs)) = mm at *
  refine wpAny_take (i := 15) (v := ?_) rfl (by decide +kernel) (by decide +kernel) (by decide +kernel) (fun _ _ _ h => h) (Or.inl ⟨by rfl, ?_⟩) ?_
  rotate_left
  · intro w; go_simp; try with_reducible rfl
  simp only [Act.put, List.getElem_toArray, List.getElem_cons_zero, List.getElem_cons_succ, List.setIfInBounds_toArray, List.set_cons_zero, List.set_cons_succ]
  refine wpAny_take (i := 16) (v := ?_) rfl (by decide +kernel) (by decide +kernel) (by decide +kernel) (fun _ _ _ h => h) (Or.inl ⟨by rfl, ?_⟩) ?_
  rotate_left
  · intro w; go_simp; try with_reducible rfl
  simp only [Act.put, List.getElem_toArray, List.getElem_cons_zero, List.getElem_cons_succ, List.setIfInBounds_toArray, List.set_cons_zero, List.set_cons_succ]
  refine wpAny_ready (rs := [17]) (by kernel_rfl) (by simp) ?_
  refine AllReady.cons rfl (fun K hK => ?_) AllReady.nil
  rw [if_pos (by rfl)]
  refine wp_store_mid 96 _ _ rfl B 0 (ints .u8 mm) rfl rfl (by rw [ints_size, hml]; exact H4.there hg 0 32 (by omega)) (by rw [ints_size, hml]; exact Tryz.info96) (ints_one _ _) (hK _ _ ?_)
  clear hK K
  refine wpAny_done (by kernel_rfl) ?_ _
  have H5 := H4.setK mm (hml.trans hg.kl.symm)
  have hE5 := hE4.setCells 0 (ints .u8 mm).toList
  generalize w4.setCells B 0 (ints .u8 mm).toList = w5 at *
  clear H4 hE4 hcat Y3 HS3
  go_wp2_with fail
  refine (mstep_any _ B _ (mk_ok hml hg.vl) H5).mono ?_
  rintro e w6 ⟨rfl, hS6, hE6⟩
  go_wp2
  go_end0
  rw [He.out]
  exact ⟨rfl, hS6, hE5.trans hE6⟩
def stirG (g : MG) (xs : List Int) : MG := if xs = [] then rekeyG g 0 [] else rekeyG (rekeyG g 0 xs) 1 xs
theorem stirG_ok {g : MG} (h : g.ok) (xs : List Int) : (stirG g xs).ok := by
  unfold stirG
  split
  · exact rekeyG_ok h _ _
  · exact rekeyG_ok (rekeyG_ok h _ _) _ _
theorem Src.ex {w w' : World} {v : Value} {xs : List Int} {B : Nat} (h : Src w v xs) (hb : Ex B w w') (hB : ∀ ad n c, v = .slice (some ad) n c → 0 < n → ad.block ≠ B) : Src w' v xs := by
  rcases h with h | ⟨ad, cap, rfl, hc⟩
  · exact Or.inl h
  · refine Or.inr ⟨ad, cap, rfl, fun j u hu => ?_⟩
    have h1 := hc j u hu
    have hlt := World.block_lt_of_cell? w _ h1
    have hj : j < xs.length := by simpa using (List.getElem?_eq_some_iff.1 hu).1
    have hne : ad.block ≠ B := hB ad _ _ rfl (by omega)
    rw [← h1]
    have e1 : (ad.add j).block = ad.block := by unfold Addr.add; split <;> rfl
    have e2 := hb.block (ad.add j).block hlt (by rw [e1]; exact hne)
    unfold World.cell?
    rw [e2]
/-- no cell of the list lies in block B -/
def Off (v : Value) (B : Nat) : Prop := ∀ ad n c, v = .slice (some ad) n c → 0 < n → ad.block ≠ B
set_option maxRecDepth 20000 in
set_option maxHeartbeats 400000 in
theorem stir_any (g : MG) (v : Value) (xs : List Int) (B : Nat) (w : World) (hg : g.ok) (hS : MgAt w B g) (hv : Src w v xs) (hx : xs.length ≤ 1000) (ho : Off v B) :
    Calls Tryz.prog 111 #[.pointer (some ⟨B, 0, none⟩), v] w fun e w' => e = .returned (.tuple #[]) ∧ MgAt w' B (stirG g xs) ∧ Ex B w w' := by
  obtain ⟨ao, cp, hve⟩ := hv.form
  rw [hve] at hv ho
  rw [hve]
  clear hve
  have HV := hid hv
  have HO := hid ho
  clear hv ho
  go_enter Tryz.func111, Tryz.ntmps111
  go_wp2_with fail
  refine (rekey_any g 0 _ xs B _ hg hS HV.out hx).mono ?_
  rintro e w1 ⟨rfl, hS1, hE1⟩
  have HV1 := hid (HV.out.ex hE1 HO.out)
  by_cases h0 : xs = []
  · subst h0
    go_wp2
    go_end0
    exact ⟨rfl, by rw [stirG, if_pos rfl]; exact hS1, hE1⟩
  · have hp : 0 < xs.length := List.length_pos_iff.2 h0
    have hp' : (0 : Int) < xs.length := by omega
    have hg1 := rekeyG_ok hg 0 xs
    have He : Hd (stirG g xs = rekeyG (rekeyG g 0 xs) 1 xs) := hid (by rw [stirG, if_neg h0])
    generalize rekeyG g 0 xs = g1 at *
    clear h0
    go_wp2_with fail
    refine (rekey_any g1 1 _ xs B _ hg1 hS1 HV1.out hx).mono ?_
    rintro e w2 ⟨rfl, hS2, hE2⟩
    go_wp2
    go_end0
    rw [He.out]
    exact ⟨rfl, hS2, hE1.trans hE2⟩
set_option maxHeartbeats 400000 in
theorem mreseed_any (g : MG) (v : Value) (xs : List Int) (B : Nat) (w : World) (hg : g.ok) (hS : MgAt w B g) (hv : Src w v xs) (hx : xs.length ≤ 1000) (ho : Off v B) :
    Calls Tryz.prog 108 #[.pointer (some ⟨B, 0, none⟩), v] w fun e w' => e = .returned (.tuple #[]) ∧ MgAt w' B (stirG g xs) ∧ Ex B w w' := by
  go_enter Tryz.func108, Tryz.ntmps108
  go_wp2_with fail
  refine (stir_any g v xs B _ hg hS hv hx ho).mono ?_
  rintro e w1 ⟨rfl, hS1, hE1⟩
  go_wp2
  go_end0
  exact ⟨rfl, hS1, hE1⟩
end Go.Proofs.YtbifmhbkmnofiaaGreat
namespace Go.Proofs.YtbifmhbkmnofiaaGreat
open Go.RowKit
set_option linter.unusedVariables false
set_option linter.unusedSimpArgs false
theorem MgAt.row {w : World} {B : Nat} {g : MG} (h : MgAt w B g) : ∃ t, w.heap[B]? = some (.cells (ints .u8 (g.k ++ g.v)) t (0, 0)) := by
  obtain ⟨t, h⟩ := h
  exact ⟨t, by rw [h]; simp [ints]⟩
theorem MgAt.of_row {w : World} {B : Nat} {k v : List Int} {t : TypeId} (h : w.heap[B]? = some (.cells (ints .u8 (k ++ v)) t (0, 0))) : MgAt w B ⟨k, v⟩ :=
  ⟨t, by rw [h]; simp [ints]⟩
theorem MgAt.setCell {w : World} {B : Nat} {k v : List Int} (h : MgAt w B ⟨k, v⟩) (hk : k.length = 32) (j : Nat) (hj : j < v.length) (x : Int) : MgAt (w.setCell ⟨B, 32 + j, none⟩ (.int .u8 x)) B ⟨k, v.set j x⟩ := by
  obtain ⟨t, h⟩ := h.row
  dsimp only at h
  refine MgAt.of_row (t := t) ?_
  rw [setCell_ints w B (32 + j) .u8 _ x t h]
  rw [List.set_append_right _ _ (by omega), show 32 + j - k.length = j by omega]
def ones (k : Nat) : List Int := List.replicate k 1 ++ List.replicate (32 - k) 0
theorem ones_len (k : Nat) (h : k ≤ 32) : (ones k).length = 32 := by simp [ones]; omega
theorem ones_step (k : Nat) (h : k < 32) : ones (k + 1) = (ones k).set k 1 := by
  unfold ones
  rw [List.set_append_right _ _ (by simp), List.length_replicate, Nat.sub_self, show 32 - k = (32 - (k + 1)) + 1 by omega, List.replicate_succ (n := 32 - (k + 1)), List.set_cons_zero]
  rw [List.replicate_succ', List.append_assoc]; rfl
theorem ones_get (k : Nat) (h : k < 32) : (ones k)[k]? = some 0 := by
  unfold ones
  rw [List.getElem?_append_right (by simp), List.length_replicate, Nat.sub_self, List.getElem?_replicate, if_pos (by omega)]
def seedG (xs : List Int) : MG := stirG ⟨Z32, ones 32⟩ xs
theorem seedG_ok (xs : List Int) : (seedG xs).ok := stirG_ok (mk_ok (by rfl) (by rfl)) xs
theorem Tryz.info156 : (Tryz.prog.info? 156).map (·.size) = some 64 := by kernel_rfl
theorem Tryz.underl121 : ∃ d, Tryz.prog.underlying 156 = some d := ⟨_, Tryz.underlying156⟩
set_option maxRecDepth 20000 in
set_option maxHeartbeats 400000 in
theorem mseed_any (g : MG) (v : Value) (xs : List Int) (B : Nat) (w : World) (hg : g.ok) (hS : MgAt w B g) (hv : Src w v xs) (hx : xs.length ≤ 1000) (ho : Off v B) :
    Calls Tryz.prog 109 #[.pointer (some ⟨B, 0, none⟩), v] w fun e w' => e = .returned (.tuple #[]) ∧ MgAt w' B (seedG xs) ∧ Ex B w w' := by
  obtain ⟨t, hb⟩ := hS.row
  have hlt := hS.lt
  have HV := hid hv
  have HO := hid ho
  clear hv ho
  have hz : (ints .u8 (g.k ++ g.v)).size = (ints .u8 (Z32 ++ ones 0)).size := by simp [ints_size, hg.kl, hg.vl, Z32, ones]
  have hi : (Tryz.prog.info? 156).map (·.size) = some (ints .u8 (Z32 ++ ones 0)).size := by rw [Tryz.info156]; rfl
  have h1 : MgAt (w.setRow B (ints .u8 (Z32 ++ ones 0))) B ⟨Z32, ones 0⟩ := MgAt.of_row (setRow_heap _ _ _ _ _ _ hb)
  have hE1 : Ex B w (w.setRow B (ints .u8 (Z32 ++ ones 0))) := ⟨rfl, rfl, rfl, by rw [size_setRow]; exact Nat.le_refl _, fun k _ hk => heap_setRow _ _ _ _ hk⟩
  have hZ : Z32.length = 32 := rfl
  have Hb := hid hb
  have Hz := hid hz
  have Hi := hid hi
  clear hb hz hi
  generalize hzz : Z32 ++ ones 0 = zz at *
  obtain ⟨z32, hz32⟩ : ∃ z, Z32 = z := ⟨_, rfl⟩
  rw [hz32] at h1 hZ
  have hZ32 := hid hz32
  clear hz32
  go_enter Tryz.func109, Tryz.ntmps109
  go_wp2_with (first
    | refine wpList_build_eq rfl 156 _ rfl (ints .u8 zz) (by kernel_rfl) ?_
    | refine wpList_store_row rfl 156 _ _ rfl B (ints .u8 zz) rfl rfl t _ Hb.out Hi.out Hz.out (ints_one _ _) ?_)
  clear Hb Hz Hi
  generalize w.setRow B (ints .u8 zz) = w1 at *
  go_loopw [8] (fun i wr => ∃ k : Nat, k ≤ 32 ∧ i = .int .i64 k ∧ MgAt wr B ⟨z32, ones k⟩ ∧ Ex B w wr) (fun i _ => 32 - (intOf i).toNat)
  case atStart => exact ⟨0, by omega, rfl, h1, hE1⟩
  case round =>
    clear h1 hE1
    obtain ⟨k, hk, rfl, h1, hE1⟩ := hrel
    by_cases hlt : k < 32
    · have c1 : wr.cell? ⟨B, 32 + k, none⟩ = some (.int .u8 0) := by
        rw [h1.cell]
        dsimp only
        rw [List.getElem?_append_right (by simp [hZ])]
        simp [hZ, ones_get k hlt]
      have f1 : wr.frozen? ⟨B, 32 + k, none⟩ = false := h1.frozen _
      have hst := hid (ones_step k hlt)
      have h2 := hid (h1.setCell hZ k (by rw [ones_len k hk]; exact hlt) 1)
      clear h1
      go_wp2
      exact ⟨⟨k + 1, by omega, by go_num, by rw [hst.out]; exact h2.out, hE1.setCell _ _⟩, by simp [intOf]; omega⟩
    · obtain rfl : k = 32 := by omega
      have hos : Src wr v xs := HV.out.ex hE1 HO.out
      have hsg : Hd (seedG xs = stirG ⟨z32, ones 32⟩ xs) := hid (by rw [← hZ32.out]; simp only [seedG])
      have hok := mk_ok hZ (ones_len 32 (by omega))
      go_wp2_with fail
      refine (stir_any _ v xs B _ hok h1 hos hx HO.out).mono ?_
      rintro e w2 ⟨rfl, hS2, hE2⟩
      go_wp2
      go_end0
      rw [hsg.out]
      exact ⟨rfl, hS2, hE1.trans hE2⟩
end Go.Proofs.YtbifmhbkmnofiaaGreat
