import Derived.Test.YtbifmhbkmnofiaaGreatNf
namespace Go.Proofs.YtbifmhbkmnofiaaGreat
open Go.RowKit
set_option linter.unusedVariables false
set_option linter.unusedSimpArgs false
/-- the tags behind 'own' -/
def ownTag (own : Nat → Tag) (n b1 b2 b3 l : Nat) (vl : Value) : Nat → Tag := fun b => if b < n then own b else if b = b1 then .li (l + 1) else if b = b2 then .li (l + 2) else if b = b3 then .li (l + 3) else if vl.ownBlock = some b then .row 4 else .row 5
theorem OutAt.lt {w : World} {gb : Nat} {xs : List Int} (h : OutAt w (some ⟨gb, 0, none⟩) xs) : gb < w.heap.size := by
  rcases h with ⟨h, _⟩ | ⟨g, h, hc⟩
  · cases h
  · cases h
    exact (Array.getElem?_eq_some_iff.1 hc).1
theorem own_inv (ao : Option Addr) (xs : List Int) (N Wb k : Nat) (own : Nat → Tag) (t : Sta) (w : World) (h : Inv noTag w N Wb k own t) (hO : OutAt w ao xs) (hn : xs.length ≤ 1000) (hg : ∀ gb, ao = some ⟨gb, 0, none⟩ → own gb = .li t.lis.length ∧ N ≤ gb) (hl : t.lis.length + 4 ≤ 4 * k) (hk : k * 96 ≤ 140737488355328) :
    Calls Tryz.prog 67 #[.pointer (some ⟨Wb, 0, none⟩), .slice ao xs.length xs.length] w fun e w' => e = .returned (.tuple #[]) ∧ ∃ own' t', Inv noTag w' N Wb k own' t' ∧ Nxt w w' own own' := by
  have hW := h.wb (fun hh => hh)
  have hr4 := h.r4.own_ (fun hh => hh)
  have hr5 := h.r5.own_ (fun hh => hh)
  have t4 := h.r4.tag
  have t5 := h.r5.tag
  have hNz : N ≤ w.heap.size := by have := h.wlo; omega
  have hl4 : (t.lis.map (·.v)).length = t.lis.length := List.length_map _
  have hm5 : (t.lis.map fun x => Value.int .i64 x.m) = ((t.lis.map (·.m)).map (Value.int .i64)) := by rw [List.map_map]; rfl
  have hform : ∀ b, ao = some b → b = ⟨b.block, 0, none⟩ := fun b hb => by
    rcases hO with ⟨h1, _⟩ | ⟨gb, h1, _⟩
    · rw [h1] at hb; cases hb
    · rw [h1] at hb; cases hb; rfl
  rw [hm5] at hr5
  refine (own_any ao xs Wb N t.vs t.v4 t.v5 (t.lis.map (·.v)) (t.lis.map (·.m)) w hO hn hW rfl rfl rfl (by rw [hl4]; exact hr4) (by rw [hl4]; exact hr5) (by rw [hl4]; omega) (fun e => ?_) (fun b hb e => ?_) (fun b hb e => ?_) (fun e => ?_) (fun e => ?_) (fun b hb e => ?_) hNz).mono ?_
  · have := (hg Wb e).1; rw [h.wbt] at this; cases this
  · have := (hg b e).1; rw [(t4 b hb).1] at this; cases this
  · have := (hg b e).1; rw [(t5 b hb).1] at this; cases this
  · have := (t4 Wb e).1; rw [h.wbt] at this; cases this
  · have := (t5 Wb e).1; rw [h.wbt] at this; cases this
  · have h1 := (t4 b hb).1; rw [(t5 b e).1] at h1; cases h1
  · rintro e w' ⟨rfl, b1, b2, b3, c1, c2, c3, vl', vm', hW', hr4', hr5', hfl, hv1, hv2, hv3, hb1, hb12, hb23, hol, hom, hF⟩
    rw [hl4] at hr4' hr5' hfl hv1 hv2 hv3
    have hl1 := (World.ownsRow.lt hv1 b1 rfl).2
    have hl2 := (World.ownsRow.lt hv2 b2 rfl).2
    have hl3 := (World.ownsRow.lt hv3 b3 rfl).2
    have hex : ∀ b, b < w.heap.size → (ao = some ⟨b, 0, none⟩ ∨ b = Wb ∨ some b = t.v4.ownBlock ∨ some b = t.v5.ownBlock) → (own b = .world ∨ own b = .row 4 ∨ own b = .row 5 ∨ ∃ i, own b = .li i ∧ t.lis.length ≤ i) := by
      rintro b hb (hh | rfl | hh | hh)
      · exact .inr (.inr (.inr ⟨_, (hg b hh).1, Nat.le_refl _⟩))
      · exact .inl h.wbt
      · exact .inr (.inl (t4 b hh.symm).1)
      · exact .inr (.inr (.inl (t5 b hh.symm).1))
    have hold : ∀ b, b < w.heap.size → ownTag own w.heap.size b1 b2 b3 t.lis.length vl' b = own b := fun b hb => if_pos hb
    have e1 : ownTag own w.heap.size b1 b2 b3 t.lis.length vl' b1 = .li (t.lis.length + 1) := by unfold ownTag; rw [if_neg (by omega), if_pos rfl]
    have e2 : ownTag own w.heap.size b1 b2 b3 t.lis.length vl' b2 = .li (t.lis.length + 2) := by unfold ownTag; rw [if_neg (by omega), if_neg (by omega), if_pos rfl]
    have e3 : ownTag own w.heap.size b1 b2 b3 t.lis.length vl' b3 = .li (t.lis.length + 3) := by unfold ownTag; rw [if_neg (by omega), if_neg (by omega), if_neg (by omega), if_pos rfl]
    have hI := (h.weak (ex' := fun q => q = .world ∨ q = .row 4 ∨ q = .row 5 ∨ ∃ i, q = .li i ∧ t.lis.length ≤ i) (fun _ hh => hh.elim)).fr hF hex hold
    have hmm : ((t.lis.map (·.m) ++ [(t.lis.length : Int), t.lis.length, t.lis.length, t.lis.length]).map (Value.int .i64)) = (t.lis.map fun x => Value.int .i64 x.m) ++ [.int .i64 (t.lis.length : Int), .int .i64 (t.lis.length : Int), .int .i64 (t.lis.length : Int), .int .i64 (t.lis.length : Int)] := by rw [List.map_append, List.map_map]; rfl
    rw [hmm] at hr5'
    have hm0 : (0 : Int) ≤ t.lis.length := by omega
    have hm1 : (t.lis.length : Int) ≤ 9223372036854775807 := by omega
    refine ⟨rfl, ownTag own w.heap.size b1 b2 b3 t.lis.length vl', _, hI.push_li (v' := vl') (u' := vm') (a := ⟨.slice ao xs.length xs.length, t.lis.length, xs.length⟩) (b := ⟨.slice (some ⟨b1, 0, none⟩) (xs.length + 1) c1, t.lis.length, xs.length + 1⟩) (c := ⟨.slice (some ⟨b2, 0, none⟩) (xs.length + 2) c2, t.lis.length, xs.length + 2⟩) (d := ⟨.slice (some ⟨b3, 0, none⟩) (xs.length + 3) c3, t.lis.length, xs.length + 3⟩) hW' hr4' hr5' (fun b hb => ?_) (fun b hb => ?_) ⟨hfl, hm0, hm1, by show xs.length ≤ _; omega, fun b hb => ?_⟩ ⟨fl_row hv1, hm0, hm1, by show xs.length + 1 ≤ _; omega, fun b hb => ?_⟩ ⟨fl_row hv2, hm0, hm1, by show xs.length + 2 ≤ _; omega, fun b hb => ?_⟩ ⟨fl_row hv3, hm0, hm1, by show xs.length + 3 ≤ _; omega, fun b hb => ?_⟩ (h.few.came hl _ _ _ _ _ _), Nxt.of_fr hF (fun b hb hh => ?_) hold⟩
    · rcases hol with q | ⟨b', hb', q⟩
      · rw [q] at hb
        rw [hold b (t4 b hb).2.2]
        exact (t4 b hb).1
      · rw [q] at hb
        cases hb
        unfold ownTag
        rw [if_neg (by omega), if_neg (by omega), if_neg (by omega), if_neg (by omega), if_pos q]
    · rcases hom with q | ⟨b', hb', hne, q⟩
      · rw [q] at hb
        rw [hold b (t5 b hb).2.2]
        exact (t5 b hb).1
      · rw [q] at hb
        cases hb
        unfold ownTag
        rw [if_neg (by omega), if_neg (by omega), if_neg (by omega), if_neg (by omega), if_neg hne]
    · cases ao with
      | none => cases hb
      | some a =>
        have ha := hform a rfl
        have hb' : a.block = b := by simpa [Value.ownBlock] using hb
        have hao : some a = some ⟨b, 0, none⟩ := by rw [ha, hb']
        have hlb : b < w.heap.size := by rw [hao] at hO; exact hO.lt
        exact ⟨by rw [hold b hlb]; exact (hg b hao).1, (hg b hao).2, by have := hF.size; omega⟩
    · have hq : b1 = b := by simpa [Value.ownBlock] using hb
      rw [← hq]
      exact ⟨e1, Nat.le_trans hNz (by omega), hl1⟩
    · have hq : b2 = b := by simpa [Value.ownBlock] using hb
      rw [← hq]
      exact ⟨e2, Nat.le_trans hNz (by omega), hl2⟩
    · have hq : b3 = b := by simpa [Value.ownBlock] using hb
      rw [← hq]
      exact ⟨e3, Nat.le_trans hNz (by omega), hl3⟩
    · rcases hex b hb hh with q | q | q | ⟨i, q, _⟩ <;> rw [q] <;> exact trivial
theorem OutAt.byt {w : World} {ao : Option Addr} {xs : List Int} (h : OutAt w ao xs) : Byt w (.slice ao xs.length xs.length) xs := by
  rcases h with ⟨rfl, rfl⟩ | ⟨gb, rfl, hc⟩
  · exact .inl ⟨rfl, _, _, rfl⟩
  · exact byt_block hc _
set_option maxHeartbeats 1000000 in
theorem took_inv (ao : Option Addr) (xs : List Int) (er : Int) (N Wb k : Nat) (own : Nat → Tag) (t : Sta) (w : World) (h : Inv noTag w N Wb k own t) (hO : OutAt w ao xs) (hn : xs.length ≤ 1000) (hg : ∀ gb, ao = some ⟨gb, 0, none⟩ → own gb = .li t.lis.length ∧ N ≤ gb) (hl : t.lis.length + 4 ≤ 4 * k) (hk : k * 96 ≤ 140737488355328) :
    Calls Tryz.prog 35 #[.pointer (some ⟨Wb, 0, none⟩), .slice ao xs.length xs.length, .int .i64 er, .string (toS xs), .int .i64 er] w fun e w' => e = .returned (.bool true) ∧ ∃ own' t', Inv noTag w' N Wb k own' t' ∧ Nxt w w' own own' := by
  have L := hid (looks_inv N Wb k own t w h (by omega))
  have Hb := hid hO.byt
  have HI := hid h
  have HO := hid hO
  have Hg := hid hg
  clear h hO hg
  generalize hts : toS xs = ts at *
  have Hts := hid hts
  clear hts
  go_enter Tryz.func35, Tryz.ntmps35
  go_wp2_with (refine wpList_str rfl _ rfl _ xs rfl Hb.out ?_)
  rw [Hts.out]
  go_wp2_with fail
  refine L.out.mono ?_
  rintro e w1 ⟨rfl, m, rfl⟩
  have O := hid (own_inv ao xs N Wb k own t (w.drewN m) (HI.out.drewN m) HO.out hn Hg.out hl hk)
  go_wp2_with fail
  refine O.out.mono ?_
  rintro e w2 ⟨rfl, own', t', hI2, hN2⟩
  have HI2 := hid hI2
  have HN2 : Hd (Nxt w w2 own own') := hid ⟨hN2.tag, ⟨hN2.fr.1, hN2.fr.2, hN2.fr.3, hN2.fr.4, hN2.fr.5⟩⟩
  clear hI2 hN2 O L HI HO Hb
  go_wp2_with fail
  refine (num_any er _).mono ?_
  rintro e w3 ⟨rfl, hw⟩
  have hw3 := hw.symm
  subst hw3
  clear hw
  go_wp2_with fail
  refine (num_any er _).mono ?_
  rintro e w3 ⟨rfl, hw⟩
  have hw3 := hw.symm
  subst hw3
  clear hw
  go_wp2
  go_ret
  exact ⟨rfl, own', t', HI2.out, HN2.out⟩
end Go.Proofs.YtbifmhbkmnofiaaGreat
namespace Go.Proofs.YtbifmhbkmnofiaaGreat
open Go.RowKit
set_option linter.unusedVariables false
set_option linter.unusedSimpArgs false
/-- a step of a script -/
structure OpV where
  kind : Int
  a : Int
  n : Int
  s : ByteArray
  t : ByteArray
  u : ByteArray
  x : Int
  y : Int
  z : Int
def OpV.cells (o : OpV) : List Value := [.int .i64 o.kind, .int .i64 o.a, .int .i64 o.n, .string o.s, .string o.t, .string o.u, .int .i64 o.x, .int .i64 o.y, .int .i64 o.z]
def OpV.val (o : OpV) : Value := .agg #[.int .i64 o.kind, .int .i64 o.a, .int .i64 o.n, .string o.s, .string o.t, .string o.u, .int .i64 o.x, .int .i64 o.y, .int .i64 o.z]
/-- a step that can be read -/
structure OpV.ok (o : OpV) : Prop where
  k0 : -9223372036854775808 ≤ o.kind
  k1 : o.kind ≤ 9223372036854775807
  a0 : -9223372036854775808 ≤ o.a
  a1 : o.a ≤ 9223372036854775807
  n0 : -9223372036854775808 ≤ o.n
  n1 : o.n ≤ 9223372036854775807
  s1 : o.s.size ≤ 140737488351232
  t1 : o.t.size ≤ 140737488351232
  u1 : o.u.size ≤ 140737488351232
/-- the step's own copy -/
structure OpAt (w : World) (B : Nat) (o : OpV) : Prop where
  c0 : w.cell? ⟨B, 0, none⟩ = some (.int .i64 o.kind)
  c1 : w.cell? ⟨B, 1, none⟩ = some (.int .i64 o.a)
  c2 : w.cell? ⟨B, 2, none⟩ = some (.int .i64 o.n)
  c3 : w.cell? ⟨B, 3, none⟩ = some (.string o.s)
  c4 : w.cell? ⟨B, 4, none⟩ = some (.string o.t)
  c5 : w.cell? ⟨B, 5, none⟩ = some (.string o.u)
  c6 : w.cell? ⟨B, 6, none⟩ = some (.int .i64 o.x)
  c7 : w.cell? ⟨B, 7, none⟩ = some (.int .i64 o.y)
  c8 : w.cell? ⟨B, 8, none⟩ = some (.int .i64 o.z)
  lt : B < w.heap.size
def OpV.obj (o : OpV) : Obj := .cells #[.int .i64 o.kind, .int .i64 o.a, .int .i64 o.n, .string o.s, .string o.t, .string o.u, .int .i64 o.x, .int .i64 o.y, .int .i64 o.z] 38
theorem OpAt.new (w : World) (o : OpV) : OpAt (w.alloc o.obj) w.heap.size o := by
  have h := al_new w o.obj
  have hz := al_size w o.obj
  unfold OpV.obj at h
  exact ⟨cell_of_row _ _ 0 _ _ _ h, cell_of_row _ _ 1 _ _ _ h, cell_of_row _ _ 2 _ _ _ h, cell_of_row _ _ 3 _ _ _ h, cell_of_row _ _ 4 _ _ _ h, cell_of_row _ _ 5 _ _ _ h, cell_of_row _ _ 6 _ _ _ h, cell_of_row _ _ 7 _ _ _ h, cell_of_row _ _ 8 _ _ _ h, by omega⟩
theorem OpAt.other {w w' : World} {B : Nat} {o : OpV} (h : OpAt w B o) (hz : w.heap.size ≤ w'.heap.size) (he : w'.heap[B]? = w.heap[B]?) : OpAt w' B o := by
  have e : ∀ j, w'.cell? ⟨B, j, none⟩ = w.cell? ⟨B, j, none⟩ := fun j => by unfold World.cell?; rw [he]
  exact ⟨by rw [e]; exact h.c0, by rw [e]; exact h.c1, by rw [e]; exact h.c2, by rw [e]; exact h.c3, by rw [e]; exact h.c4, by rw [e]; exact h.c5, by rw [e]; exact h.c6, by rw [e]; exact h.c7, by rw [e]; exact h.c8, by have := h.lt; omega⟩
theorem OpAt.below {w w' : World} {B : Nat} {o : OpV} (h : OpAt w B o) (hb : Below w.heap.size w w') : OpAt w' B o := h.other hb.size (hb.block B h.lt)
theorem ssum_gen (s : ByteArray) : ∃ v er, (∀ w, Calls Tryz.prog 16 #[.string s] w fun e w' => e = .returned (.tuple #[.string v, .int .i64 er]) ∧ Below w.heap.size w w') ∧ (∀ w, Calls Tryz.prog 17 #[.string s] w fun e w' => e = .returned (.tuple #[.string v, .int .i64 er]) ∧ Below w.heap.size w w') := by
  by_cases h : s.size ≤ 300
  · exact ⟨_, _, fun w => SSum_yes s w h, fun w => rsum_yes s w h⟩
  · refine ⟨⟨#[]⟩, 2, fun w => (SSum_no s w (by omega)).mono ?_, fun w => (rsum_no s w (by omega)).mono ?_⟩
    · rintro e w' ⟨rfl, rfl⟩
      exact ⟨rfl, Below.refl _ _⟩
    · rintro e w' ⟨rfl, rfl⟩
      exact ⟨rfl, Below.refl _ _⟩
theorem smac_gen (k s : ByteArray) : ∃ v er, (∀ w, Calls Tryz.prog 19 #[.string k, .string s] w fun e w' => e = .returned (.tuple #[.string v, .int .i64 er]) ∧ Below w.heap.size w w') ∧ (∀ w, Calls Tryz.prog 20 #[.string k, .string s] w fun e w' => e = .returned (.tuple #[.string v, .int .i64 er]) ∧ Below w.heap.size w w') := by
  by_cases h : k.size ≤ 300 ∧ s.size ≤ 300
  · exact ⟨_, _, fun w => SMac_yes k s w h.1 h.2, fun w => rmac_yes k s w h.1 h.2⟩
  · refine ⟨⟨#[]⟩, 2, fun w => (SMac_no k s w (by omega)).mono ?_, fun w => (rmac_no k s w (by omega)).mono ?_⟩
    · rintro e w' ⟨rfl, rfl⟩
      exact ⟨rfl, Below.refl _ _⟩
    · rintro e w' ⟨rfl, rfl⟩
      exact ⟨rfl, Below.refl _ _⟩
set_option maxHeartbeats 1000000 in
theorem sums_sum (o : OpV) (Wb : Nat) (w : World) (hk : o.kind = 1) :
    Calls Tryz.prog 11 #[.pointer (some ⟨Wb, 0, none⟩), o.val] w fun e w' => e = .returned (.bool true) ∧ Below w.heap.size w w' := by
  have HO := hid (OpAt.new w o)
  have HB := hid ((Below.refl w.heap.size w).alloc (Nat.le_refl _) o.obj)
  unfold OpV.obj at HO HB
  obtain ⟨k, a, n, s, t, u, x, y, z⟩ := o
  dsimp only at hk HO HB
  subst hk
  obtain ⟨v, er, h1, h2⟩ := ssum_gen s
  have H1 := hid h1
  have H2 := hid h2
  clear h1 h2
  unfold OpV.val
  dsimp only
  go_enter Tryz.func11, Tryz.ntmps11
  go_wp2_with fail
  generalize w.alloc (.cells #[.int .i64 1, .int .i64 a, .int .i64 n, .string s, .string t, .string u, .int .i64 x, .int .i64 y, .int .i64 z] 38) = w1 at *
  refine (H1.out w1).mono ?_
  rintro e w2 ⟨rfl, hB2⟩
  have hO2 := HO.out.below hB2
  have HO2 := hid hO2
  obtain ⟨c0, c1, c2, c3, c4, c5, c6, c7, c8, _⟩ := hO2
  have HB2 := hid (HB.out.trans (hB2.mono HB.out.size))
  clear hB2 HB HO
  go_wp2_with fail
  refine (H2.out w2).mono ?_
  rintro e w3 ⟨rfl, hB3⟩
  have HB3 := hid (HB2.out.trans (hB3.mono HB2.out.size))
  clear hB3 HB2 HO2 c0 c1 c2 c3 c4 c5 c6 c7 c8
  go_wp2_with fail
  refine (num_any er _).mono ?_
  rintro e w4 ⟨rfl, hw⟩
  have hw4 := hw.symm
  subst hw4
  clear hw
  go_wp2_with fail
  refine (num_any er _).mono ?_
  rintro e w4 ⟨rfl, hw⟩
  have hw4 := hw.symm
  subst hw4
  clear hw
  go_wp2
  go_ret
  exact ⟨rfl, HB3.out⟩
set_option maxHeartbeats 1000000 in
theorem sums_mac (o : OpV) (Wb : Nat) (w : World) (hk : o.kind = 2) :
    Calls Tryz.prog 11 #[.pointer (some ⟨Wb, 0, none⟩), o.val] w fun e w' => e = .returned (.bool true) ∧ Below w.heap.size w w' := by
  have HO := hid (OpAt.new w o)
  have HB := hid ((Below.refl w.heap.size w).alloc (Nat.le_refl _) o.obj)
  unfold OpV.obj at HO HB
  obtain ⟨k, a, n, s, t, u, x, y, z⟩ := o
  dsimp only at hk HO HB
  subst hk
  obtain ⟨v, er, h1, h2⟩ := smac_gen s t
  have H1 := hid h1
  have H2 := hid h2
  clear h1 h2
  unfold OpV.val
  dsimp only
  go_enter Tryz.func11, Tryz.ntmps11
  go_wp2_with fail
  generalize w.alloc (.cells #[.int .i64 2, .int .i64 a, .int .i64 n, .string s, .string t, .string u, .int .i64 x, .int .i64 y, .int .i64 z] 38) = w1 at *
  refine (H1.out w1).mono ?_
  rintro e w2 ⟨rfl, hB2⟩
  have hO2 := HO.out.below hB2
  obtain ⟨c0, c1, c2, c3, c4, c5, c6, c7, c8, _⟩ := hO2
  have HB2 := hid (HB.out.trans (hB2.mono HB.out.size))
  clear hB2 HB HO
  go_wp2_with fail
  refine (H2.out w2).mono ?_
  rintro e w3 ⟨rfl, hB3⟩
  have HB3 := hid (HB2.out.trans (hB3.mono HB2.out.size))
  clear hB3 HB2 c0 c1 c2 c3 c4 c5 c6 c7 c8
  go_wp2_with fail
  refine (num_any er _).mono ?_
  rintro e w4 ⟨rfl, hw⟩
  have hw4 := hw.symm
  subst hw4
  clear hw
  go_wp2_with fail
  refine (num_any er _).mono ?_
  rintro e w4 ⟨rfl, hw⟩
  have hw4 := hw.symm
  subst hw4
  clear hw
  go_wp2
  go_ret
  exact ⟨rfl, HB3.out⟩
end Go.Proofs.YtbifmhbkmnofiaaGreat
namespace Go.Proofs.YtbifmhbkmnofiaaGreat
open Go.RowKit
set_option linter.unusedVariables false
set_option linter.unusedSimpArgs false
theorem Tryz.info_sm : (Tryz.prog.info? 54).map (fun i => (i.zero, i.size, i.bytes)) = some (some (.agg #[.pointer none, .pointer none]), 2, 16) := by kernel_rfl
theorem Inv.app_sm {w w5 : World} {N Wb k : Nat} {own : Nat → Tag} {t : Sta} (h : Inv noTag w N Wb k own t) {x : Sm} (hA : SmAt w N (fun b => own b = .sm t.sms.length) x) {v' : Value} (hown : w5.ownsRow N 54 2 v' (t.sms.length + 1) (flatP (t.sms.map fun x => (x.X, x.Y)) ++ [pt x.X, pt x.Y])) (hgr : w.grownBy w5 t.v0.ownBlock) (hat : v'.ownBlock = t.v0.ownBlock ∨ v'.ownBlock = some w.heap.size) (hl : t.sms.length + 1 ≤ k) (hx : x.s.size ≤ 300 * k) :
    ∃ own', Inv noTag (w5.setCell ⟨Wb, 0, none⟩ v') N Wb k own' { t with v0 := v', sms := t.sms ++ [x] } ∧ Nxt w (w5.setCell ⟨Wb, 0, none⟩ v') own own' := by
  have ht := h.r0.tag
  have hF : Fr (fun b => some b = t.v0.ownBlock ∨ b = Wb) w (w5.setCell ⟨Wb, 0, none⟩ v') := ((Fr.of_grown hgr).mono (fun b _ hb => .inl hb)).trans ((Fr.of_ex ((Ex.refl Wb w5).setCell 0 v')).mono (fun b _ hb => .inr hb))
  have hex : ∀ b, b < w.heap.size → (some b = t.v0.ownBlock ∨ b = Wb) → (own b = .world ∨ own b = .row 0) := by
    rintro b hb (hh | rfl)
    · exact .inr (ht b hh.symm).1
    · exact .inl h.wbt
  have hold := newTag_old own w.heap.size (.row 0)
  have hI := (h.weak (ex' := fun q => q = .world ∨ q = .row 0) (fun _ hh => hh.elim)).fr hF hex hold
  have hWne : t.v0.ownBlock ≠ some Wb := fun e => by have := (ht Wb e).1; rw [h.wbt] at this; cases this
  have hWv : v'.ownBlock ≠ some Wb := fun e => by
    rcases hat with q | q
    · rw [q] at e; exact hWne e
    · rw [q] at e; simp only [Option.some.injEq] at e; have := h.wlo.2; omega
  have hW5 := (h.wb (fun hh => hh)).other (hgr.block Wb h.wlo.2 (fun e => hWne e.symm))
  have hr6 := owns_other hown (w' := w5.setCell ⟨Wb, 0, none⟩ v') (fun b hb => Below.heap_setCell _ _ _ _ (fun e => hWv (by rw [hb]; exact congrArg some e)))
  have hA6 := hA.kept (Kept.of_fr (ex := fun q => q = .world ∨ q = .row 0) hF hex hold (by rintro (q | q) <;> cases q))
  refine ⟨newTag own w.heap.size (.row 0), hI.push_sm (hW5.set 0 v') hr6 (fun b hb => ?_) hA6 ⟨by simpa using hl, h.few.sos, h.few.gus, h.few.wes, h.few.lis, h.few.les, (fun y hy => (List.mem_append.1 hy).elim (fun hy => h.few.txt y hy) (fun hy => by simp at hy; subst hy; exact hx)), h.few.cgu, h.few.cwe⟩, Nxt.of_fr hF (fun b hb hh => ?_) hold⟩
  · rcases hat with q | q
    · rw [q] at hb
      rw [hold b (ht b hb).2.2]
      exact (ht b hb).1
    · rw [q] at hb
      simp only [Option.some.injEq] at hb
      exact newTag_new _ _ _ _ (by omega)
  · rcases hex b hb hh with q | q <;> rw [q] <;> exact trivial
theorem Tryz.info_so : (Tryz.prog.info? 69).map (fun i => (i.zero, i.size, i.bytes)) = some (some (.agg #[.pointer none, .pointer none]), 2, 16) := by kernel_rfl
theorem Inv.app_so {w w5 : World} {N Wb k : Nat} {own : Nat → Tag} {t : Sta} (h : Inv noTag w N Wb k own t) {x : So} (hA : SoAt w N (fun b => own b = .so t.sos.length) x) {v' : Value} (hown : w5.ownsRow N 69 2 v' (t.sos.length + 1) (flatP (t.sos.map fun x => (x.A, x.Y)) ++ [pt x.A, pt x.Y])) (hgr : w.grownBy w5 t.v1.ownBlock) (hat : v'.ownBlock = t.v1.ownBlock ∨ v'.ownBlock = some w.heap.size) (hl : t.sos.length + 1 ≤ k)  :
    ∃ own', Inv noTag (w5.setCell ⟨Wb, 1, none⟩ v') N Wb k own' { t with v1 := v', sos := t.sos ++ [x] } ∧ Nxt w (w5.setCell ⟨Wb, 1, none⟩ v') own own' := by
  have ht := h.r1.tag
  have hF : Fr (fun b => some b = t.v1.ownBlock ∨ b = Wb) w (w5.setCell ⟨Wb, 1, none⟩ v') := ((Fr.of_grown hgr).mono (fun b _ hb => .inl hb)).trans ((Fr.of_ex ((Ex.refl Wb w5).setCell 1 v')).mono (fun b _ hb => .inr hb))
  have hex : ∀ b, b < w.heap.size → (some b = t.v1.ownBlock ∨ b = Wb) → (own b = .world ∨ own b = .row 1) := by
    rintro b hb (hh | rfl)
    · exact .inr (ht b hh.symm).1
    · exact .inl h.wbt
  have hold := newTag_old own w.heap.size (.row 1)
  have hI := (h.weak (ex' := fun q => q = .world ∨ q = .row 1) (fun _ hh => hh.elim)).fr hF hex hold
  have hWne : t.v1.ownBlock ≠ some Wb := fun e => by have := (ht Wb e).1; rw [h.wbt] at this; cases this
  have hWv : v'.ownBlock ≠ some Wb := fun e => by
    rcases hat with q | q
    · rw [q] at e; exact hWne e
    · rw [q] at e; simp only [Option.some.injEq] at e; have := h.wlo.2; omega
  have hW5 := (h.wb (fun hh => hh)).other (hgr.block Wb h.wlo.2 (fun e => hWne e.symm))
  have hr6 := owns_other hown (w' := w5.setCell ⟨Wb, 1, none⟩ v') (fun b hb => Below.heap_setCell _ _ _ _ (fun e => hWv (by rw [hb]; exact congrArg some e)))
  have hA6 := hA.kept (Kept.of_fr (ex := fun q => q = .world ∨ q = .row 1) hF hex hold (by rintro (q | q) <;> cases q))
  refine ⟨newTag own w.heap.size (.row 1), hI.push_so (hW5.set 1 v') hr6 (fun b hb => ?_) hA6 ⟨h.few.sms, by simpa using hl, h.few.gus, h.few.wes, h.few.lis, h.few.les, h.few.txt, h.few.cgu, h.few.cwe⟩, Nxt.of_fr hF (fun b hb hh => ?_) hold⟩
  · rcases hat with q | q
    · rw [q] at hb
      rw [hold b (ht b hb).2.2]
      exact (ht b hb).1
    · rw [q] at hb
      simp only [Option.some.injEq] at hb
      exact newTag_new _ _ _ _ (by omega)
  · rcases hex b hb hh with q | q <;> rw [q] <;> exact trivial
theorem Tryz.info_gu : (Tryz.prog.info? 82).map (fun i => (i.zero, i.size, i.bytes)) = some (some (.agg #[.pointer none, .pointer none]), 2, 16) := by kernel_rfl
theorem Inv.app_gu {w w5 : World} {N Wb k : Nat} {own : Nat → Tag} {t : Sta} (h : Inv noTag w N Wb k own t) {x : Gu} (hA : GuAt w N (fun b => own b = .gu t.gus.length) x) {v' : Value} (hown : w5.ownsRow N 82 2 v' (t.gus.length + 1) (flatP (t.gus.map fun x => (x.A, x.Y)) ++ [pt x.A, pt x.Y])) (hgr : w.grownBy w5 t.v2.ownBlock) (hat : v'.ownBlock = t.v2.ownBlock ∨ v'.ownBlock = some w.heap.size) (hl : t.gus.length + 1 ≤ k) (hx : x.c ≤ 200 * k) :
    ∃ own', Inv noTag (w5.setCell ⟨Wb, 2, none⟩ v') N Wb k own' { t with v2 := v', gus := t.gus ++ [x] } ∧ Nxt w (w5.setCell ⟨Wb, 2, none⟩ v') own own' := by
  have ht := h.r2.tag
  have hF : Fr (fun b => some b = t.v2.ownBlock ∨ b = Wb) w (w5.setCell ⟨Wb, 2, none⟩ v') := ((Fr.of_grown hgr).mono (fun b _ hb => .inl hb)).trans ((Fr.of_ex ((Ex.refl Wb w5).setCell 2 v')).mono (fun b _ hb => .inr hb))
  have hex : ∀ b, b < w.heap.size → (some b = t.v2.ownBlock ∨ b = Wb) → (own b = .world ∨ own b = .row 2) := by
    rintro b hb (hh | rfl)
    · exact .inr (ht b hh.symm).1
    · exact .inl h.wbt
  have hold := newTag_old own w.heap.size (.row 2)
  have hI := (h.weak (ex' := fun q => q = .world ∨ q = .row 2) (fun _ hh => hh.elim)).fr hF hex hold
  have hWne : t.v2.ownBlock ≠ some Wb := fun e => by have := (ht Wb e).1; rw [h.wbt] at this; cases this
  have hWv : v'.ownBlock ≠ some Wb := fun e => by
    rcases hat with q | q
    · rw [q] at e; exact hWne e
    · rw [q] at e; simp only [Option.some.injEq] at e; have := h.wlo.2; omega
  have hW5 := (h.wb (fun hh => hh)).other (hgr.block Wb h.wlo.2 (fun e => hWne e.symm))
  have hr6 := owns_other hown (w' := w5.setCell ⟨Wb, 2, none⟩ v') (fun b hb => Below.heap_setCell _ _ _ _ (fun e => hWv (by rw [hb]; exact congrArg some e)))
  have hA6 := hA.kept (Kept.of_fr (ex := fun q => q = .world ∨ q = .row 2) hF hex hold (by rintro (q | q) <;> cases q))
  refine ⟨newTag own w.heap.size (.row 2), hI.push_gu (hW5.set 2 v') hr6 (fun b hb => ?_) hA6 ⟨h.few.sms, h.few.sos, by simpa using hl, h.few.wes, h.few.lis, h.few.les, h.few.txt, (fun y hy => (List.mem_append.1 hy).elim (fun hy => h.few.cgu y hy) (fun hy => by simp at hy; subst hy; exact hx)), h.few.cwe⟩, Nxt.of_fr hF (fun b hb hh => ?_) hold⟩
  · rcases hat with q | q
    · rw [q] at hb
      rw [hold b (ht b hb).2.2]
      exact (ht b hb).1
    · rw [q] at hb
      simp only [Option.some.injEq] at hb
      exact newTag_new _ _ _ _ (by omega)
  · rcases hex b hb hh with q | q <;> rw [q] <;> exact trivial
theorem Tryz.info_we : (Tryz.prog.info? 92).map (fun i => (i.zero, i.size, i.bytes)) = some (some (.agg #[.pointer none, .pointer none]), 2, 16) := by kernel_rfl
theorem Inv.app_we {w w5 : World} {N Wb k : Nat} {own : Nat → Tag} {t : Sta} (h : Inv noTag w N Wb k own t) {x : We} (hA : WeAt w N (fun b => own b = .we t.wes.length) x) {v' : Value} (hown : w5.ownsRow N 92 2 v' (t.wes.length + 1) (flatP (t.wes.map fun x => (x.A, x.Y)) ++ [pt x.A, pt x.Y])) (hgr : w.grownBy w5 t.v3.ownBlock) (hat : v'.ownBlock = t.v3.ownBlock ∨ v'.ownBlock = some w.heap.size) (hl : t.wes.length + 1 ≤ k) (hx : x.c ≤ 200 * k) :
    ∃ own', Inv noTag (w5.setCell ⟨Wb, 3, none⟩ v') N Wb k own' { t with v3 := v', wes := t.wes ++ [x] } ∧ Nxt w (w5.setCell ⟨Wb, 3, none⟩ v') own own' := by
  have ht := h.r3.tag
  have hF : Fr (fun b => some b = t.v3.ownBlock ∨ b = Wb) w (w5.setCell ⟨Wb, 3, none⟩ v') := ((Fr.of_grown hgr).mono (fun b _ hb => .inl hb)).trans ((Fr.of_ex ((Ex.refl Wb w5).setCell 3 v')).mono (fun b _ hb => .inr hb))
  have hex : ∀ b, b < w.heap.size → (some b = t.v3.ownBlock ∨ b = Wb) → (own b = .world ∨ own b = .row 3) := by
    rintro b hb (hh | rfl)
    · exact .inr (ht b hh.symm).1
    · exact .inl h.wbt
  have hold := newTag_old own w.heap.size (.row 3)
  have hI := (h.weak (ex' := fun q => q = .world ∨ q = .row 3) (fun _ hh => hh.elim)).fr hF hex hold
  have hWne : t.v3.ownBlock ≠ some Wb := fun e => by have := (ht Wb e).1; rw [h.wbt] at this; cases this
  have hWv : v'.ownBlock ≠ some Wb := fun e => by
    rcases hat with q | q
    · rw [q] at e; exact hWne e
    · rw [q] at e; simp only [Option.some.injEq] at e; have := h.wlo.2; omega
  have hW5 := (h.wb (fun hh => hh)).other (hgr.block Wb h.wlo.2 (fun e => hWne e.symm))
  have hr6 := owns_other hown (w' := w5.setCell ⟨Wb, 3, none⟩ v') (fun b hb => Below.heap_setCell _ _ _ _ (fun e => hWv (by rw [hb]; exact congrArg some e)))
  have hA6 := hA.kept (Kept.of_fr (ex := fun q => q = .world ∨ q = .row 3) hF hex hold (by rintro (q | q) <;> cases q))
  refine ⟨newTag own w.heap.size (.row 3), hI.push_we (hW5.set 3 v') hr6 (fun b hb => ?_) hA6 ⟨h.few.sms, h.few.sos, h.few.gus, by simpa using hl, h.few.lis, h.few.les, h.few.txt, h.few.cgu, (fun y hy => (List.mem_append.1 hy).elim (fun hy => h.few.cwe y hy) (fun hy => by simp at hy; subst hy; exact hx))⟩, Nxt.of_fr hF (fun b hb hh => ?_) hold⟩
  · rcases hat with q | q
    · rw [q] at hb
      rw [hold b (ht b hb).2.2]
      exact (ht b hb).1
    · rw [q] at hb
      simp only [Option.some.injEq] at hb
      exact newTag_new _ _ _ _ (by omega)
  · rcases hex b hb hh with q | q <;> rw [q] <;> exact trivial
theorem owns_slice {w : World} {N n size : Nat} {e : TypeId} {v : Value} {xs : List Value} (h : w.ownsRow N e size v n xs) : ∃ a c, v = .slice a n c := by
  rcases h.2 with ⟨h, h0⟩ | ⟨g', cap', cur, h, _⟩
  · exact ⟨_, _, by rw [h, h0]⟩
  · exact ⟨_, _, h⟩
theorem pair_new (w : World) (a b : Value) (ty : TypeId) : ∀ j u, [a, b][j]? = some u → (w.alloc (.cells #[a, b] ty)).cell? ((⟨w.heap.size, 0, none⟩ : Addr).add j) = some u := fun j u hu => by
  rw [Addr.add_mid, Nat.zero_add, cell_of_row _ _ _ _ _ _ (al_new w _)]
  simpa using hu
set_option maxRecDepth 20000 in
set_option maxHeartbeats 1000000 in
theorem sums_new (o : OpV) (N Wb k : Nat) (own : Nat → Tag) (t : Sta) (w : World) (h : Inv noTag w N Wb k own t) (hk : o.kind = 3) (hl : t.sms.length + 1 ≤ k) (hkb : k * 24 ≤ 140737488355328) :
    Calls Tryz.prog 11 #[.pointer (some ⟨Wb, 0, none⟩), o.val] w fun e w' => e = .returned (.bool true) ∧ ∃ own' t', Inv noTag w' N Wb k own' t' ∧ Nxt w w' own own' := by
  obtain ⟨i0, hi, hz0, hz1, hz2⟩ := info_parts Tryz.info_sm
  have HB := hid ((Below.refl w.heap.size w).alloc (Nat.le_refl _) o.obj)
  unfold OpV.obj at HB
  obtain ⟨k0, a, n, s, t0, u, x, y, z⟩ := o
  dsimp only at hk HB
  subst hk
  have HI := hid h
  clear h
  unfold OpV.val
  dsimp only
  go_enter Tryz.func11, Tryz.ntmps11
  go_wp2_with fail
  generalize w.alloc (.cells #[.int .i64 3, .int .i64 a, .int .i64 n, .string s, .string t0, .string u, .int .i64 x, .int .i64 y, .int .i64 z] 38) = w1 at *
  refine (NewSummer_any w1).mono ?_
  rintro e w2 ⟨X, rfl, hS2, hX, hB2⟩
  have hXl := hS2.lt
  have hX0 : w.heap.size ≤ X := Nat.le_trans HB.out.size hX
  have hB3 : Below w2.heap.size w2 (w2.alloc (.cells #[.string ⟨#[]⟩] 52)) := (Below.refl _ _).alloc (Nat.le_refl _) _
  have hB4 : Below (w2.alloc (.cells #[.string ⟨#[]⟩] 52)).heap.size (w2.alloc (.cells #[.string ⟨#[]⟩] 52)) ((w2.alloc (.cells #[.string ⟨#[]⟩] 52)).alloc (.cells #[pt X, pt w2.heap.size] 54)) := (Below.refl _ _).alloc (Nat.le_refl _) _
  have hz3 := al_size w2 (.cells #[.string ⟨#[]⟩] 52)
  have hz4 := al_size (w2.alloc (.cells #[.string ⟨#[]⟩] 52)) (.cells #[pt X, pt w2.heap.size] 54)
  have HBa : Below w.heap.size w ((w2.alloc (.cells #[.string ⟨#[]⟩] 52)).alloc (.cells #[pt X, pt w2.heap.size] 54)) := ((HB.out.trans (hB2.mono HB.out.size)).trans (hB3.mono (HB.out.trans (hB2.mono HB.out.size)).size)).trans (hB4.mono (by have := HB.out.size; have := hB2.size; omega))
  have hI2 := HI.out.below HBa (.sm t.sms.length)
  have hnw := hid (pair_new (w2.alloc (.cells #[.string ⟨#[]⟩] 52)) (pt X) (pt w2.heap.size) 54)
  have hzw := HBa.size
  have hNw : N ≤ w.heap.size := by have := HI.out.wlo; omega
  have hSm : SmAt ((w2.alloc (.cells #[.string ⟨#[]⟩] 52)).alloc (.cells #[pt X, pt w2.heap.size] 54)) N (fun b => newTag own w.heap.size (.sm t.sms.length) b = .sm t.sms.length) ⟨X, w2.heap.size, ⟨#[]⟩⟩ := by
    have hz1 := HB.out.size
    have hz2 := hB2.size
    refine ⟨?_, ?_, ?_, newTag_new _ _ _ _ hX0, newTag_new _ _ _ _ (by show w.heap.size ≤ w2.heap.size; omega), by show N ≤ X; omega, by show N ≤ w2.heap.size; omega⟩
    · show StAt _ X DSN
      exact (hS2.other (hB3.block X hXl)).other (hB4.block X (by omega))
    · exact WbAt.other ⟨52, al_new _ _⟩ (hB4.block w2.heap.size (by omega))
    · show X ≠ w2.heap.size; omega
  have HI2 := hid hI2
  have HSm := hid hSm
  have hW2 := (HI.out.below (HB.out.trans (hB2.mono HB.out.size)) .free).wb (fun hh => hh)
  have c0 := hW2.cell 0
  have hv0 : t.vs[0]? = some t.v0 := rfl
  rw [hv0] at c0
  have HNx : Hd (Nxt w ((w2.alloc (.cells #[.string ⟨#[]⟩] 52)).alloc (.cells #[pt X, pt w2.heap.size] 54)) own (newTag own w.heap.size (.sm t.sms.length))) := hid (Nxt.of_below _ _ HBa (newTag_old _ _ _))
  clear hI2 hSm hW2 hv0 hS2 hB2 hB3 hB4 HBa HB HI
  unfold pt at hnw HI2 HSm HNx hz4 hzw
  have hz34 : ((w2.alloc (.cells #[.string ⟨#[]⟩] 52)).alloc (.cells #[Value.pointer (some ⟨X, 0, none⟩), Value.pointer (some ⟨w2.heap.size, 0, none⟩)] 54)).heap.size = w2.heap.size + 2 := by omega
  have hWne : t.v0.ownBlock ≠ some Wb := fun e => by have := (HI2.out.r0.tag Wb e).1; rw [HI2.out.wbt] at this; cases this
  rw [hz3] at hnw
  go_wp2_with (at_builtin; refine wpList_append_own_at _ rfl _ _ 27 rfl N 54 i0 (.agg #[.pointer none, .pointer none]) 2 16 Tryz.underlying27 hi hz0 hz1 hz2 rfl (by decide) t.v0 t.sms.length _ rfl (HI2.out.r0.own_ (fun hh => hh)) ⟨w2.heap.size + 1, 0, none⟩ 1 1 [.pointer (some ⟨X, 0, none⟩), .pointer (some ⟨w2.heap.size, 0, none⟩)] rfl rfl hnw.out (fun u hu => by simp at hu; rcases hu with hu | hu <;> (subst hu; rfl)) (by unfold maxLen; omega) (by omega) (by omega) ?_)
  intro v' w5 hown hgr hiff hat
  have hI3 := HI2.out.app_sm HSm.out hown hgr (by rw [hz34]; exact hat) hl (Nat.zero_le _)
  have hW5 := (HI2.out.wb (fun hh => hh)).other (hgr.block Wb HI2.out.wlo.2 (fun e => hWne e.symm))
  have c05 := hW5.cell 0
  have f05 := hW5.frozen 0
  obtain ⟨a1, n1, hv1⟩ := owns_slice hown
  have HI3 := hid hI3
  clear hown hgr hiff hat hW5 hI3 hnw HI2 HSm c0 hWne
  have hv0 : t.vs[0]? = some t.v0 := rfl
  rw [hv0] at c05
  clear hv0
  subst hv1
  go_wp2
  go_ret
  obtain ⟨own', q1, q2⟩ := HI3.out
  exact ⟨rfl, own', _, q1, HNx.out.trans q2⟩
end Go.Proofs.YtbifmhbkmnofiaaGreat
