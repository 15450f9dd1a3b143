import Derived.Test.YtbifmhbkmnofiaaGreatNn
import Derived.Laws.AppendOwnNone
import Derived.Deep.DeepCutAuto
import Derived.Test.YtbifmhbkmnofiaaGreatRows
import Derived.WalkKit
import Derived.ProofKit
import Derived.OpenShut
import Derived.SizedLaws
import Derived.Deep.Slices
namespace Go.Proofs.YtbifmhbkmnofiaaGreat
open Go.RowKit
set_option linter.unusedVariables false
set_option linter.unusedSimpArgs false
theorem Inv.next_below {w w' : World} {N Wb k : Nat} {own : Nat → Tag} {t : Sta} (h : Inv noTag w N Wb k own t) (hb : Below w.heap.size w w') : ∃ own' t', Inv noTag w' N Wb (k + 1) own' t' ∧ Nxt w w' own own' :=
  ⟨_, t, (h.below hb .free).few_ (h.few.mono (by omega)), Nxt.of_below _ _ hb (newTag_old _ _ _)⟩
theorem sums_inv (o : OpV) (N Wb k : Nat) (own : Nat → Tag) (t : Sta) (w : World) (h : Inv noTag w N Wb k own t) (ho : o.ok) (h1 : 1 ≤ o.kind) (h2 : o.kind ≤ 5) (hkb : (k + 1) * 96 ≤ 140737488355328) :
    Calls Tryz.prog 11 #[.pointer (some ⟨Wb, 0, none⟩), o.val] w fun e w' => e = .returned (.bool true) ∧ ∃ own' t', Inv noTag w' N Wb (k + 1) own' t' ∧ Nxt w w' own own' := by
  by_cases k1 : o.kind = 1
  · refine (sums_sum o Wb w k1).mono ?_
    rintro e w' ⟨rfl, hB⟩
    exact ⟨rfl, h.next_below hB⟩
  by_cases k2 : o.kind = 2
  · refine (sums_mac o Wb w k2).mono ?_
    rintro e w' ⟨rfl, hB⟩
    exact ⟨rfl, h.next_below hB⟩
  by_cases k3 : o.kind = 3
  · exact sums_new o N Wb (k + 1) own t w (h.few_ (h.few.mono (by omega))) k3 (by have := h.few.sms; omega) (by omega)
  by_cases h0 : t.sms.length = 0
  · refine (sums_none o N Wb k own t w h (by omega) h0).mono ?_
    rintro e w' ⟨rfl, hB⟩
    exact ⟨rfl, h.next_below hB⟩
  · exact sums_rest o N Wb k own t w h ho (by omega) (by omega) (by omega) hkb
theorem draws_inv (o : OpV) (N Wb k : Nat) (own : Nat → Tag) (t : Sta) (w : World) (h : Inv noTag w N Wb k own t) (ho : o.ok) (h1 : 6 ≤ o.kind) (h2 : o.kind ≤ 8) (hkb : (k + 1) * 96 ≤ 140737488355328) :
    Calls Tryz.prog 12 #[.pointer (some ⟨Wb, 0, none⟩), o.val] w fun e w' => e = .returned (.bool true) ∧ ∃ own' t', Inv noTag w' N Wb (k + 1) own' t' ∧ Nxt w w' own own' := by
  by_cases k6 : o.kind = 6
  · exact draws_new o N Wb k own t w h ho k6 hkb
  by_cases h0 : t.sos.length = 0
  · refine (draws_none o N Wb k own t w h (by omega) h0).mono ?_
    rintro e w' ⟨rfl, hB⟩
    exact ⟨rfl, h.next_below hB⟩
  · exact draws_rest o N Wb k own t w h ho (by omega) (by omega) (by omega) hkb
theorem watches_inv (o : OpV) (N Wb k : Nat) (own : Nat → Tag) (t : Sta) (w : World) (h : Inv noTag w N Wb k own t) (ho : o.ok) (h1 : 9 ≤ o.kind) (h2 : o.kind ≤ 11) (hkb : (k + 1) * 96 ≤ 140737488355328) (hcb : (k + 1) * 200 ≤ 35184372088832) :
    Calls Tryz.prog 13 #[.pointer (some ⟨Wb, 0, none⟩), o.val] w fun e w' => e = .returned (.bool true) ∧ ∃ own' t', Inv noTag w' N Wb (k + 1) own' t' ∧ Nxt w w' own own' := by
  by_cases k9 : o.kind = 9
  · exact watches_new o N Wb k own t w h ho k9 hkb
  by_cases h0 : t.gus.length = 0
  · refine (watches_none o N Wb k own t w h (by omega) h0).mono ?_
    rintro e w' ⟨rfl, hB⟩
    exact ⟨rfl, h.next_below hB⟩
  · exact watches_rest o N Wb k own t w h ho (by omega) (by omega) (by omega) hkb hcb
theorem flows_inv (o : OpV) (N Wb k : Nat) (own : Nat → Tag) (t : Sta) (w : World) (h : Inv noTag w N Wb k own t) (ho : o.ok) (h1 : 12 ≤ o.kind) (h2 : o.kind ≤ 15) (hkb : (k + 1) * 96 ≤ 140737488355328) (hcb : (k + 1) * 200 ≤ 35184372088832) :
    Calls Tryz.prog 14 #[.pointer (some ⟨Wb, 0, none⟩), o.val] w fun e w' => e = .returned (.bool true) ∧ ∃ own' t', Inv noTag w' N Wb (k + 1) own' t' ∧ Nxt w w' own own' := by
  by_cases k12 : o.kind = 12
  · exact flows_new o N Wb k own t w h ho k12 hkb
  by_cases h0 : t.wes.length = 0
  · refine (flows_none o N Wb k own t w h (by omega) h0).mono ?_
    rintro e w' ⟨rfl, hB⟩
    exact ⟨rfl, h.next_below hB⟩
  · exact flows_rest o N Wb k own t w h ho (by omega) (by omega) (by omega) hkb hcb
set_option maxRecDepth 20000 in
set_option maxHeartbeats 2000000 in
theorem step_inv (o : OpV) (N Wb k : Nat) (own : Nat → Tag) (t : Sta) (w : World) (h : Inv noTag w N Wb k own t) (ho : o.ok) (hkb : (k + 1) * 96 ≤ 140737488355328) (hcb : o.kind ≤ 8 ∨ (k + 1) * 200 ≤ 35184372088832) :
    Calls Tryz.prog 9 #[.pointer (some ⟨Wb, 0, none⟩), o.val] w fun e w' => e = .returned (.bool true) ∧ ∃ own' t', Inv noTag w' N Wb (k + 1) own' t' ∧ Nxt w w' own own' := by
  have hB := (Below.refl w.heap.size w).alloc (Nat.le_refl _) o.obj
  have hI := h.below hB .op
  have HN := hid (Nxt.of_below own (newTag own w.heap.size .op) hB (newTag_old _ _ _))
  obtain ⟨o0, o1, o2, o3, o4, o5, o6, o7, o8, _⟩ := OpAt.new w o
  have S1 := hid (fun (h1 : 1 ≤ o.kind) (h2 : o.kind ≤ 5) => sums_inv o N Wb k _ t _ hI ho h1 h2 hkb)
  have S2 := hid (fun (h1 : 6 ≤ o.kind) (h2 : o.kind ≤ 8) => draws_inv o N Wb k _ t _ hI ho h1 h2 hkb)
  have S3 := hid (fun (h1 : 9 ≤ o.kind) (h2 : o.kind ≤ 11) => watches_inv o N Wb k _ t _ hI ho h1 h2 hkb (hcb.resolve_left (by omega)))
  have S4 := hid (fun (h1 : 12 ≤ o.kind) (h2 : o.kind ≤ 15) => flows_inv o N Wb k _ t _ hI ho h1 h2 hkb (hcb.resolve_left (by omega)))
  have HE := hid (h.next_below hB)
  clear hI hB ho h
  unfold OpV.val at *
  generalize how : w.alloc o.obj = w1 at *
  unfold OpV.obj at how
  obtain ⟨kd, a, n, s, t0, u, x, y, z⟩ := o
  dsimp only at *
  by_cases c1 : kd < 1
  · have c1' : ¬ (1 : Int) ≤ kd := by omega
    have c2' : ¬ (6 : Int) ≤ kd := by omega
    have c3' : ¬ (9 : Int) ≤ kd := by omega
    have c4' : ¬ (12 : Int) ≤ kd := by omega
    go_enter Tryz.func9, Tryz.ntmps9
    go_wp2
    go_ret
    obtain ⟨o', t', q1, q2⟩ := HE.out
    exact ⟨rfl, o', ⟨t', q1⟩, q2⟩
  by_cases c2 : kd ≤ 5
  · have c1' : (1 : Int) ≤ kd := by omega
    go_enter Tryz.func9, Tryz.ntmps9
    go_wp2_with fail
    refine (S1.out c1' c2).mono ?_
    rintro e w2 ⟨rfl, own2, t2, hI2, hN2⟩
    have HI2 := hid hI2
    have HN2 := hid (HN.out.trans hN2)
    clear hI2 hN2 how
    go_wp2
    go_ret
    exact ⟨rfl, own2, t2, HI2.out, HN2.out⟩
  by_cases c3 : kd ≤ 8
  · have c1' : (1 : Int) ≤ kd := by omega
    have c2' : (6 : Int) ≤ kd := by omega
    go_enter Tryz.func9, Tryz.ntmps9
    go_wp2_with fail
    refine (S2.out c2' c3).mono ?_
    rintro e w2 ⟨rfl, own2, t2, hI2, hN2⟩
    have HI2 := hid hI2
    have HN2 := hid (HN.out.trans hN2)
    clear hI2 hN2 how
    go_wp2
    go_ret
    exact ⟨rfl, own2, t2, HI2.out, HN2.out⟩
  by_cases c4 : kd ≤ 11
  · have c1' : (1 : Int) ≤ kd := by omega
    have c2' : (6 : Int) ≤ kd := by omega
    have c3' : (9 : Int) ≤ kd := by omega
    go_enter Tryz.func9, Tryz.ntmps9
    go_wp2_with fail
    refine (S3.out c3' c4).mono ?_
    rintro e w2 ⟨rfl, own2, t2, hI2, hN2⟩
    have HI2 := hid hI2
    have HN2 := hid (HN.out.trans hN2)
    clear hI2 hN2 how
    go_wp2
    go_ret
    exact ⟨rfl, own2, t2, HI2.out, HN2.out⟩
  by_cases c5 : kd ≤ 15
  · have c1' : (1 : Int) ≤ kd := by omega
    have c2' : (6 : Int) ≤ kd := by omega
    have c3' : (9 : Int) ≤ kd := by omega
    have c4' : (12 : Int) ≤ kd := by omega
    go_enter Tryz.func9, Tryz.ntmps9
    go_wp2_with fail
    refine (S4.out c4' c5).mono ?_
    rintro e w2 ⟨rfl, own2, t2, hI2, hN2⟩
    have HI2 := hid hI2
    have HN2 := hid (HN.out.trans hN2)
    clear hI2 hN2 how
    go_wp2
    go_ret
    exact ⟨rfl, own2, t2, HI2.out, HN2.out⟩
  · have c1' : (1 : Int) ≤ kd := by omega
    have c2' : (6 : Int) ≤ kd := by omega
    have c3' : (9 : Int) ≤ kd := by omega
    have c4' : (12 : Int) ≤ kd := by omega
    go_enter Tryz.func9, Tryz.ntmps9
    go_wp2
    go_ret
    obtain ⟨o', t', q1, q2⟩ := HE.out
    exact ⟨rfl, o', ⟨t', q1⟩, q2⟩
end Go.Proofs.YtbifmhbkmnofiaaGreat
namespace Go.Proofs.YtbifmhbkmnofiaaGreat
open Go.RowKit
set_option linter.unusedVariables false
set_option linter.unusedSimpArgs false
/-- the cells of steps in a row -/
def flatO (os : List OpV) : List Value := os.flatMap OpV.cells
theorem flatO_len (os : List OpV) : (flatO os).length = os.length * 9 := by
  induction os with
  | nil => rfl
  | cons o r ih =>
    have e : flatO (o :: r) = o.cells ++ flatO r := rfl
    rw [e, List.length_append, ih]
    show 9 + _ = _
    simp
    omega
theorem flatO_append (a b : List OpV) : flatO (a ++ b) = flatO a ++ flatO b := by simp [flatO]
theorem flatO_get (os : List OpV) (i : Nat) (o : OpV) (h : os[i]? = some o) (r : Nat) (hr : r < 9) : (flatO os)[i * 9 + r]? = o.cells[r]? := by
  induction os generalizing i with
  | nil => simp at h
  | cons q s ih =>
    have e : flatO (q :: s) = q.cells ++ flatO s := rfl
    have hq : q.cells.length = 9 := rfl
    cases i with
    | zero =>
      simp at h
      subst h
      rw [e, List.getElem?_append_left (by omega), Nat.zero_mul, Nat.zero_add]
    | succ i =>
      rw [e, List.getElem?_append_right (by omega), hq, show (i + 1) * 9 + r - 9 = i * 9 + r by omega]
      exact ih i (by simpa using h)
theorem flatO_one (os : List OpV) : ∀ u ∈ flatO os, u.oneCell' = true := by
  intro u hu
  obtain ⟨o, ho, hu⟩ := List.mem_flatMap.1 hu
  simp only [OpV.cells, List.mem_cons, List.not_mem_nil, or_false] at hu
  rcases hu with rfl | rfl | rfl | rfl | rfl | rfl | rfl | rfl | rfl <;> rfl
def emp0 : ByteArray := ⟨#[]⟩
def seedB : ByteArray := ⟨#[48, 49, 50, 51, 52, 53, 54, 55, 56, 57, 97, 98, 99, 100, 101, 102]⟩
/-- the steps that every script begins with -/
def fsts : List OpV := [⟨1, 0, 0, ⟨#[97, 98, 99]⟩, emp0, emp0, 0, 0, 0⟩, ⟨3, 0, 0, emp0, emp0, emp0, 0, 0, 0⟩, ⟨4, 0, 0, ⟨#[97, 98, 99]⟩, emp0, emp0, 0, 0, 0⟩, ⟨5, 0, 0, emp0, emp0, emp0, 0, 0, 0⟩,
  ⟨6, 0, 1, seedB, emp0, emp0, 0, 0, 0⟩, ⟨8, 0, 5, emp0, emp0, emp0, 0, 0, 0⟩, ⟨6, 0, 2, seedB, emp0, emp0, 0, 0, 0⟩, ⟨8, 1, 5, emp0, emp0, emp0, 0, 0, 0⟩, ⟨9, 0, 0, emp0, emp0, emp0, 3, 5, 4⟩, ⟨10, 0, 0, ⟨#[98, 97, 97, 97]⟩, emp0, emp0, 0, 0, 0⟩,
  ⟨12, 0, 1, emp0, emp0, emp0, 3, 5, 4⟩, ⟨13, 0, 0, seedB ++ seedB, emp0, emp0, 0, 0, 0⟩, ⟨14, 0, 5, emp0, emp0, emp0, 0, 0, 0⟩]
theorem fsts_ok : ∀ o ∈ fsts, o.ok := by
  intro o ho
  simp only [fsts, List.mem_cons, List.not_mem_nil, or_false] at ho
  have hs : (seedB ++ seedB).size ≤ 140737488351232 := by rw [ByteArray.size_append]; decide
  rcases ho with rfl | rfl | rfl | rfl | rfl | rfl | rfl | rfl | rfl | rfl | rfl | rfl | rfl <;> constructor <;> first | decide | exact hs
set_option maxRecDepth 20000 in
set_option maxHeartbeats 2000000 in
theorem first_any (w : World) : Calls Tryz.prog 8 #[] w fun e w' => e = .returned (.slice (some ⟨w.heap.size + 1, 0, none⟩) 13 13) ∧ w'.ownsRow w.heap.size 38 9 (.slice (some ⟨w.heap.size + 1, 0, none⟩) 13 13) 13 (flatO fsts) ∧ Below w.heap.size w w' := by
  go_enter Tryz.func8, Tryz.ntmps8
  go_wp2
  go_ret
  refine ⟨rfl, ?_, ((Below.refl _ _).alloc (Nat.le_refl _) _).alloc (by rw [al_size]; omega) _⟩
  have h := World.ownsRow_lit (base := w.heap.size) (e := 38) (size := 9) (w.alloc (Obj.cells #[Value.int IntKind.i64 3, Value.int IntKind.i64 5, Value.int IntKind.i64 4] 36)) (flatO fsts).toArray 13 (by rw [al_size]; omega) (by decide) (by rw [List.size_toArray, flatO_len]; rfl)
  rw [al_size] at h
  exact h
/-- a script -/
def ScV (w : World) (v : Value) (os : List OpV) : Prop := (v = .slice none 0 0 ∧ os = []) ∨ ∃ ad c, v = .slice (some ad) os.length c ∧ ∀ j u, (flatO os)[j]? = some u → w.cell? (ad.add j) = some u
theorem ScV.below {w w' : World} {v : Value} {os : List OpV} (h : ScV w v os) (hb : Below w.heap.size w w') : ScV w' v os := by
  rcases h with h | ⟨ad, c, h1, h2⟩
  · exact .inl h
  · refine .inr ⟨ad, c, h1, fun j u hu => ?_⟩
    have := h2 j u hu
    rw [hb.cell (World.block_lt_of_cell? w _ this)]
    exact this
theorem Tryz.info_op : (Tryz.prog.info? 38).map (fun i => (i.zero, i.size, i.bytes)) = some (some (OpV.val ⟨0, 0, 0, emp0, emp0, emp0, 0, 0, 0⟩), 9, 96) := by kernel_rfl
theorem wp_append_sc {w : World} {ops : Array Oper} {rest : List Oper} {o : Oper} {a : Act} {Q : Exit → Act → World → Prop} (hgd : o.guard = none) (s x : Operand)
    (ho : o.op = .call { callee := .builtin .append, args := #[s, x], argTypes := #[22, 22] }) (base : Nat) (v : Value) (n : Nat) (xs : List Value) (hs : a.eval s = v) (hown : w.ownsRow base 38 9 v n xs)
    (sv : Value) (os : List OpV) (hx : a.eval x = sv) (hsc : ScV w sv os) (hb : (n + os.length) * 96 ≤ 140737488355328) (hbase : base ≤ w.heap.size)
    (h : ∀ v' w', w'.ownsRow base 38 9 v' (n + os.length) (xs ++ flatO os) → w.grownBy w' v.ownBlock → wpList Tryz.prog ops Q rest (a.put o.dst v') w') : wpList Tryz.prog ops Q (o :: rest) a w := by
  obtain ⟨i0, hi, hz0, hz1, hz2⟩ := info_parts Tryz.info_op
  rcases hsc with ⟨h1, h2⟩ | ⟨ad, c, h1, h2⟩
  · subst h2
    refine wpList_append_own_none hgd s x 22 ho base 38 i0 9 Tryz.underlying22 hi v n xs hs hown (by rw [hx, h1]) ?_
    exact h v w (by simpa [flatO] using hown) (World.grownBy.refl _ _)
  · refine wpList_append_own_at w hgd s x 22 ho base 38 i0 _ 9 96 Tryz.underlying22 hi hz0 hz1 hz2 rfl (by decide) v n xs hs hown ad os.length c (flatO os) (by rw [hx, h1]) (flatO_len os) h2 (flatO_one os) (by unfold maxLen; omega) hb hbase ?_
    intro v' w' q1 q2 _ _
    exact h v' w' q1 q2
/-- a World with nothing in it -/
theorem Inv.new (w : World) (N : Nat) (own : Nat → Tag) (hN : N ≤ w.heap.size) (ty : TypeId) : Inv noTag (w.alloc (.cells #[.slice none 0 0, .slice none 0 0, .slice none 0 0, .slice none 0 0, .slice none 0 0, .slice none 0 0, .slice none 0 0] ty)) N w.heap.size 0 (newTag own w.heap.size .world) ⟨.slice none 0 0, .slice none 0 0, .slice none 0 0, .slice none 0 0, .slice none 0 0, .slice none 0 0, .slice none 0 0, [], [], [], [], [], []⟩ := by
  have hrow : ∀ j e size, RowOk noTag (w.alloc (.cells #[.slice none 0 0, .slice none 0 0, .slice none 0 0, .slice none 0 0, .slice none 0 0, .slice none 0 0, .slice none 0 0] ty)) N (newTag own w.heap.size .world) j (.slice none 0 0) e size 0 [] := fun j e size => ⟨fun _ => World.ownsRow_nil _ _ _ _, fun b hb => by cases hb⟩
  exact ⟨newTag_new _ _ _ _ (Nat.le_refl _), ⟨hN, by rw [al_size]; omega⟩, fun _ => ⟨ty, al_new _ _⟩, hrow _ _ _, hrow _ _ _, hrow _ _ _, hrow _ _ _, hrow _ _ _, hrow _ _ _, hrow _ _ _,
    fun i x h => by simp at h, fun i x h => by simp at h, fun i x h => by simp at h, fun i x h => by simp at h, fun i x h => by simp at h, fun i x h => by simp at h,
    ⟨Nat.le_refl _, Nat.le_refl _, Nat.le_refl _, Nat.le_refl _, Nat.le_refl _, Nat.le_refl _, by simp, by simp, by simp⟩⟩
end Go.Proofs.YtbifmhbkmnofiaaGreat
namespace Go.Proofs.YtbifmhbkmnofiaaGreat
open Go.RowKit
set_option linter.unusedVariables false
set_option linter.unusedSimpArgs false
/-- where a script stands behind j steps -/
structure Mid (w : World) (Wb : Nat) (vr : Value) (os : List OpV) (j : Nat) (wr : World) : Prop where
  ex : ∃ own t, Inv noTag wr w.heap.size Wb j own t ∧ (∀ b, vr.ownBlock = some b → own b = .script) ∧ (∀ b, b < w.heap.size → own b = .free)
  row : wr.ownsRow w.heap.size 38 9 vr os.length (flatO os)
  bel : Below w.heap.size w wr
theorem Mid.next {w wr w' : World} {Wb : Nat} {vr : Value} {os : List OpV} {j : Nat} {own own' : Nat → Tag} {t : Sta} (hI : Inv noTag w' w.heap.size Wb (j + 1) own' t) (hN : Nxt wr w' own own') (hs : ∀ b, vr.ownBlock = some b → own b = .script) (hf : ∀ b, b < w.heap.size → own b = .free) (hr : wr.ownsRow w.heap.size 38 9 vr os.length (flatO os)) (hb : Below w.heap.size w wr) : Mid w Wb vr os (j + 1) w' := by
  have hlt := World.ownsRow.lt hr
  have hz := hb.size
  refine ⟨⟨own', t, hI, fun b hb => ?_, fun b hb => ?_⟩, owns_other hr (fun b hb => ?_), ⟨hN.fr.os.trans hb.os, hN.fr.tape.trans hb.tape, hN.fr.output.trans hb.output, Nat.le_trans hz hN.fr.size, fun b hl => ?_⟩⟩
  · rw [hN.tag b (hlt b hb).2]; exact hs b hb
  · rw [hN.tag b (by omega)]; exact hf b hb
  · exact hN.fr.block b (hlt b hb).2 (by rw [hs b hb]; exact fun hh => hh)
  · exact (hN.fr.block b (by omega) (by rw [hf b hl]; exact fun hh => hh)).trans (hb.block b hl)
theorem Mid.drewN {w wr : World} {Wb : Nat} {vr : Value} {os : List OpV} {j : Nat} (h : Mid w Wb vr os j wr) (m : Nat) : Mid w Wb vr os j (wr.drewN m) := by
  obtain ⟨⟨own, t, h1, h2, h3⟩, h4, h5⟩ := h
  exact ⟨⟨own, t, h1.drewN m, h2, h3⟩, owns_other h4 (fun b hb => rfl), ⟨h5.1, h5.2, h5.3, h5.4, h5.5⟩⟩
theorem Mid.idle {w wr : World} {Wb : Nat} {vr : Value} {os : List OpV} {j : Nat} (h : Mid w Wb vr os j wr) : Mid w Wb vr os (j + 1) wr := by
  obtain ⟨⟨own, t, h1, h2, h3⟩, h4, h5⟩ := h
  exact ⟨⟨own, t, h1.few_ (h1.few.mono (by omega)), h2, h3⟩, h4, h5⟩
theorem mid_step (o : OpV) (w wr : World) (Wb : Nat) (vr : Value) (os : List OpV) (j : Nat) (h : Mid w Wb vr os j wr) (ho : o.ok) (hkb : (j + 1) * 96 ≤ 140737488355328) (hcb : o.kind ≤ 8 ∨ (j + 1) * 200 ≤ 35184372088832) :
    Calls Tryz.prog 9 #[.pointer (some ⟨Wb, 0, none⟩), o.val] wr fun e w' => e = .returned (.bool true) ∧ Mid w Wb vr os (j + 1) w' := by
  obtain ⟨⟨own, t, h1, h2, h3⟩, h4, h5⟩ := h
  refine (step_inv o _ Wb j own t wr h1 ho hkb hcb).mono ?_
  rintro e w' ⟨rfl, own', t', q1, q2⟩
  exact ⟨rfl, Mid.next q1 q2 h2 h3 h4 h5⟩
theorem mid_looks (w wr : World) (Wb : Nat) (vr : Value) (os : List OpV) (j : Nat) (h : Mid w Wb vr os j wr) (hk : j ≤ 2000000000000000000) :
    Calls Tryz.prog 10 #[.pointer (some ⟨Wb, 0, none⟩)] wr fun e w' => e = .returned (.bool true) ∧ Mid w Wb vr os j w' := by
  obtain ⟨own, t, h1, h2, h3⟩ := h.ex
  refine (looks_inv _ Wb j own t wr h1 hk).mono ?_
  rintro e w' ⟨rfl, m, rfl⟩
  exact ⟨rfl, h.drewN m⟩
set_option maxRecDepth 20000 in
set_option maxHeartbeats 4000000 in
theorem played_any (last : Int) (os : List OpV) (v : Value) (w : World) (hv : ScV w v os) (hok : ∀ o ∈ os, o.ok) (hn : (os.length + 13) * 96 ≤ 140737488355328) (hl0 : -9223372036854775808 ≤ last) (hl1 : last ≤ 9223372036854775807) (hl : last ≤ 8 ∨ (os.length + 13) * 200 ≤ 35184372088832) :
    Calls Tryz.prog 7 #[v, .int .i64 last] w fun e w' => e = .returned (.bool true) ∧ Below w.heap.size w w' := by
  have Hv := hid hv
  have Hok := hid hok
  clear hv hok
  go_enter Tryz.func7, Tryz.ntmps7
  go_wp2_with fail
  refine (first_any w).mono ?_
  rintro e w1 ⟨rfl, hr1, hB1⟩
  have HB1 := hid hB1
  have Hr1 := hid hr1
  have hz1 := hB1.size
  clear hB1 hr1
  go_wp2_with (at_builtin; refine wp_append_sc rfl _ _ rfl w.heap.size _ 13 (flatO fsts) rfl Hr1.out _ os rfl (Hv.out.below HB1.out) (by omega) hz1 ?_)
  intro vr w2 hr2 hg2
  have hz2 := hg2.size
  have hB2 : Below w.heap.size w w2 := HB1.out.grown hg2 hz1 (fun k e => by simp only [Value.ownBlock, Option.some.injEq] at e; omega)
  rw [← flatO_append, show 13 + os.length = (fsts ++ os).length by simp [fsts]; omega] at hr2
  have hall : (fsts ++ os).length ≤ os.length + 13 := by simp [fsts]
  have hpos : 0 < (fsts ++ os).length := by simp [fsts]
  have Hal : Hd (∀ o ∈ fsts ++ os, o.ok) := hid (fun o ho => (List.mem_append.1 ho).elim (fsts_ok o) (Hok.out o))
  obtain ⟨g, cap, hvr⟩ : ∃ g cap, vr = .slice (some ⟨g, 0, none⟩) (fsts ++ os).length cap := by
    rcases hr2.2 with ⟨hh, h1⟩ | ⟨g, cap, cur, hv, _⟩
    · omega
    · exact ⟨g, cap, hv⟩
  generalize fsts ++ os = al at *
  have hM : Mid w w2.heap.size vr al 0 (w2.alloc (.cells #[.slice none 0 0, .slice none 0 0, .slice none 0 0, .slice none 0 0, .slice none 0 0, .slice none 0 0, .slice none 0 0] 34)) := by
    refine ⟨⟨newTag (fun b => if b < w.heap.size then .free else .script) w2.heap.size .world, _, Inv.new w2 w.heap.size _ (by omega) 34, fun b hb => ?_, fun b hb => ?_⟩, hr2.alloc _, hB2.alloc (by omega) _⟩
    · have := World.ownsRow.lt hr2 b hb
      rw [newTag_old _ _ _ b this.2]
      exact if_neg (by omega)
    · rw [newTag_old _ _ _ b (by omega)]
      exact if_pos hb
  have HM := hid hM
  clear hM hr2 hg2 HB1 Hr1 Hv Hok hB2 hz1 hz2
  subst hvr
  go_wp2
  go_loopw [7, 8] (fun ok i wr => ∃ j : Nat, j ≤ al.length ∧ ok = .bool true ∧ i = .int .i64 j ∧ Mid w w2.heap.size (.slice (some ⟨g, 0, none⟩) al.length cap) al j wr) (fun _ i _ => al.length - (intOf i).toNat)
  case atStart => exact ⟨0, by omega, rfl, rfl, HM.out⟩
  case round =>
    clear HM
    obtain ⟨j, hj, rfl, rfl, hM⟩ := hrel
    by_cases hlt : j < al.length
    · have hlt' : (j : Int) < al.length := by omega
      have hgo : al[j]? = some al[j] := List.getElem?_eq_getElem hlt
      have hoj := Hal.out al[j] (List.getElem_mem hlt)
      generalize al[j] = o at *
      have hcell : ∀ r, r < 9 → wr.cell? ⟨g, j * 9 + r, none⟩ = o.cells[r]? := fun r hr => by
        have h1 := flatO_get al j o hgo r hr
        have h2 : r < o.cells.length := hr
        have h3 := List.getElem?_eq_getElem h2
        rw [h3] at h1 ⊢
        have := World.ownsRow.cells hM.row (g := g) rfl _ _ h1
        rw [Addr.add_mid, Nat.zero_add] at this
        exact this
      have c0 : wr.cell? ⟨g, j * 9, none⟩ = some (.int .i64 o.kind) := hcell 0 (by omega)
      have Hrg : Hd (wr.rangeAt g (j * 9) o.cells) := hid (fun r u hu => by
        have hr : r < 9 := by have := (List.getElem?_eq_some_iff.1 hu).1; exact this
        rw [hcell r hr]; exact hu)
      have Hsz : Hd ((Tryz.prog.info? 38).map (·.size) = some o.cells.length) := hid (by kernel_rfl)
      have k0 := hoj.k0
      have k1 := hoj.k1
      clear hcell hgo
      by_cases hk : o.kind ≤ last
      · have S := hid (mid_step o w wr _ _ al j hM hoj (by omega) (by omega))
        unfold OpV.val at S
        unfold OpV.cells at Hrg Hsz
        clear hM hoj
        go_wp2_with (refine wpList_load_mid rfl 38 _ rfl g (j * 9) rfl _ _ Hrg.out Tryz.underlying38 rfl Hsz.out ?_)
        go_wp2_with fail
        refine S.out.mono ?_
        rintro e w4 ⟨rfl, hM4⟩
        have L := hid (mid_looks w w4 _ _ al (j + 1) hM4 (by omega))
        clear hM4 S c0 Hrg Hsz
        go_wp2_with fail
        refine L.out.mono ?_
        rintro e w5 ⟨rfl, hM5⟩
        have HM5 := hid hM5
        clear hM5 L
        go_wp2
        exact ⟨⟨j + 1, by omega, rfl, by go_num, HM5.out⟩, by simp [intOf]; omega⟩
      · have L := hid (mid_looks w wr _ _ al j hM (by omega))
        clear hM hoj Hrg Hsz
        go_wp2_with fail
        refine L.out.mono ?_
        rintro e w5 ⟨rfl, hM5⟩
        have HM5 := hid hM5.idle
        clear hM5 L
        go_wp2
        exact ⟨⟨j + 1, by omega, rfl, by go_num, HM5.out⟩, by simp [intOf]; omega⟩
    · have hlt' : ¬ (j : Int) < al.length := by omega
      have HB := hid hM.bel
      clear hM
      go_wp2
      go_ret
      exact ⟨rfl, HB.out⟩
theorem Sums_any (os : List OpV) (v : Value) (w : World) (hv : ScV w v os) (hok : ∀ o ∈ os, o.ok) (hn : (os.length + 13) * 96 ≤ 140737488355328) :
    Calls Tryz.prog 3 #[v] w fun e w' => e = .returned (.bool true) ∧ Below w.heap.size w w' := by
  have H := hid (played_any 5 os v w hv hok hn (by omega) (by omega) (.inl (by omega)))
  go_enter Tryz.func3, Tryz.ntmps3
  go_wp2_with fail
  refine H.out.mono ?_
  rintro e w1 ⟨rfl, hB⟩
  have HB := hid hB
  clear hB
  go_wp2
  go_ret
  exact ⟨rfl, HB.out⟩
theorem Draws_any (os : List OpV) (v : Value) (w : World) (hv : ScV w v os) (hok : ∀ o ∈ os, o.ok) (hn : (os.length + 13) * 96 ≤ 140737488355328) :
    Calls Tryz.prog 4 #[v] w fun e w' => e = .returned (.bool true) ∧ Below w.heap.size w w' := by
  have H := hid (played_any 8 os v w hv hok hn (by omega) (by omega) (.inl (by omega)))
  go_enter Tryz.func4, Tryz.ntmps4
  go_wp2_with fail
  refine H.out.mono ?_
  rintro e w1 ⟨rfl, hB⟩
  have HB := hid hB
  clear hB
  go_wp2
  go_ret
  exact ⟨rfl, HB.out⟩
theorem Watches_any (os : List OpV) (v : Value) (w : World) (hv : ScV w v os) (hok : ∀ o ∈ os, o.ok) (hn : (os.length + 13) * 200 ≤ 35184372088832) :
    Calls Tryz.prog 5 #[v] w fun e w' => e = .returned (.bool true) ∧ Below w.heap.size w w' := by
  have H := hid (played_any 11 os v w hv hok (by omega) (by omega) (by omega) (.inr hn))
  go_enter Tryz.func5, Tryz.ntmps5
  go_wp2_with fail
  refine H.out.mono ?_
  rintro e w1 ⟨rfl, hB⟩
  have HB := hid hB
  clear hB
  go_wp2
  go_ret
  exact ⟨rfl, HB.out⟩
theorem All_any (os : List OpV) (v : Value) (w : World) (hv : ScV w v os) (hok : ∀ o ∈ os, o.ok) (hn : (os.length + 13) * 200 ≤ 35184372088832) :
    Calls Tryz.prog 6 #[v] w fun e w' => e = .returned (.bool true) ∧ Below w.heap.size w w' := by
  have H := hid (played_any 15 os v w hv hok (by omega) (by omega) (by omega) (.inr hn))
  go_enter Tryz.func6, Tryz.ntmps6
  go_wp2_with fail
  refine H.out.mono ?_
  rintro e w1 ⟨rfl, hB⟩
  have HB := hid hB
  clear hB
  go_wp2
  go_ret
  exact ⟨rfl, HB.out⟩
end Go.Proofs.YtbifmhbkmnofiaaGreat
namespace Go.Proofs.YtbifmhbkmnofiaaGreat
open Go.ChangeShapes Go.WideShapes Go.ChangeAt Go.RowKit
open Go.ChangeMaps (open_string shut_string)
set_option linter.unusedVariables false
set_option linter.unusedSimpArgs false
theorem Tryz.cells38 : Tryz.prog.cellsOf 38 = 9 := by kernel_rfl
theorem Tryz.cells36 : Tryz.prog.cellsOf 36 = 3 := by kernel_rfl
theorem Tryz.cells3_ : Tryz.prog.cellsOf 3 = 1 := by kernel_rfl
theorem Tryz.cells9_ : Tryz.prog.cellsOf 9 = 1 := by kernel_rfl
theorem Tryz.bytes38 : Tryz.prog.bytesOf 38 = 96 := by kernel_rfl
theorem wf_i64 {n : Int} (h : (Lit.int .i64 n).wf = true) : -9223372036854775808 ≤ n ∧ n ≤ 9223372036854775807 := by
  simp [Lit.wf, IntKind.min, IntKind.max, IntKind.bits, IntKind.signed] at h
  omega
theorem bsz (s : ByteArray) : s.data.toList.length = s.size := by rw [Array.length_toList]; rfl
theorem reach_le {n : Nat} (h : n ≤ reachBytes) : n ≤ 140737488351232 := h
theorem mem_all {H : Type} {P : Program} {e : TypeId} {D : Nat → DataW H} {len i : Nat} (hi : i < len) : ∀ x ∈ (D i).weights P e, x ∈ DataW.weightsAll P e ((List.range len).map D) := by
  have key : ∀ (l : List Nat), i ∈ l → ∀ x ∈ (D i).weights P e, x ∈ DataW.weightsAll P e (l.map D) := by
    intro l
    induction l with
    | nil => intro h; simp at h
    | cons a l ih =>
      intro h x hx
      simp only [List.map_cons, DataW.weightsAll, List.mem_append]
      rcases List.mem_cons.1 h with rfl | h
      · exact Or.inl hx
      · exact Or.inr (ih h x hx)
  exact key _ (List.mem_range.2 hi)
set_option maxRecDepth 100000 in
set_option maxHeartbeats 1000000 in
theorem view_ops {H : Type} {enc : TypeId × Value → H} {W : World} {v : Value} {d : DataW H} {p : List MemPlace} {base : Nat} (hok : Value.okWide Tryz.prog W .any base 22 v) (h : DataW.Trod enc Tryz.prog W 0 (fun _ => true) true 22 v d p)
    (hwt : ∀ n ∈ d.weights Tryz.prog 22, n ≤ reachBytes) : ∃ os : List OpV, ScV W v os ∧ (∀ o ∈ os, o.ok) ∧ (os.length + 13) * 96 ≤ 140737488355328 ∧ (os = [] ∨ ∃ es sp, d = .slice es sp ∧ es.length = os.length) := by
  obtain ⟨a0, len, cap, rfl⟩ := okWide_slice Tryz.underlying22 hok
  obtain ⟨fuel, hf⟩ := h
  rcases Go.Deep.open_slice Tryz.underlying22 hf with ⟨hcs, hx⟩ | ⟨a, len', cap', m, n, D, Pl, hcs, _, hl, hm, hmm, hx, hel⟩
  · simp [Value.cells] at hcs
    obtain ⟨rfl, rfl, rfl⟩ := hcs
    exact ⟨[], .inl ⟨rfl, rfl⟩, by simp, by simp, .inl rfl⟩
  · simp [Value.cells] at hcs
    obtain ⟨rfl, rfl, rfl⟩ := hcs
    simp only [if_true] at hmm
    subst hmm
    have hd : d = .slice ((List.range len).map D) ((List.range (m - len)).map fun j => D (len + j)) := congrArg Prod.fst hx
    subst hd
    have each : ∀ i, ∃ x : OpV, i < len → (∀ r u, x.cells[r]? = some u → W.cell? (a.add (i * 9 + r)) = some u) ∧ x.ok := by
      intro i
      by_cases hi : i < len
      · obtain ⟨cs', h1, h2⟩ := hel i (by omega)
        rw [Tryz.cells38] at h1
        obtain ⟨_, hlen, hcell⟩ := World.cells?_some h1
        obtain ⟨xs, k, hk, hxy, _, hxl, hfld⟩ := DataW.trod_struct Tryz.underlying38 h2
        have hx7 : xs.length = 7 := hxl
        match xs, hx7, cs', hlen with
        | [y0, y1, y2, y3, y4, y5, y6], _, [v0, v1, v2, v3, v4, v5, v6, v7, v8], _ =>
            have g0 := hfld 0 _ rfl
            have g1 := hfld 1 _ rfl
            have g2 := hfld 2 _ rfl
            have g3 := hfld 3 _ rfl
            have g4 := hfld 4 _ rfl
            have g5 := hfld 5 _ rfl
            have g6 := hfld 6 _ rfl
            simp [Tryz.cells3_, Tryz.cells9_, Tryz.cells36] at g0 g1 g2 g3 g4 g5 g6
            obtain ⟨z0, e0, d0, w0⟩ := DataW.trod_int Tryz.underlying3 g0
            obtain ⟨z1, e1, d1, w1⟩ := DataW.trod_int Tryz.underlying3 g1
            obtain ⟨z2, e2, d2, w2⟩ := DataW.trod_int Tryz.underlying3 g2
            obtain ⟨s3, e3, d3, _⟩ := DataW.trod_string Tryz.underlying9 g3
            obtain ⟨s4, e4, d4, _⟩ := DataW.trod_string Tryz.underlying9 g4
            obtain ⟨s5, e5, d5, _⟩ := DataW.trod_string Tryz.underlying9 g5
            obtain ⟨xs6, k6, hk6, hxy6, _, hxl6, hfld6⟩ := DataW.trod_struct Tryz.underlying36 g6
            have hx3 : xs6.length = 3 := hxl6
            match xs6, hx3 with
            | [t6, t7, t8], _ =>
              have g60 := hfld6 0 _ rfl
              have g61 := hfld6 1 _ rfl
              have g62 := hfld6 2 _ rfl
              simp [Tryz.cells3_] at g60 g61 g62
              obtain ⟨z6, e6, d6, w6⟩ := DataW.trod_int Tryz.underlying3 g60
              obtain ⟨z7, e7, d7, w7⟩ := DataW.trod_int Tryz.underlying3 g61
              obtain ⟨z8, e8, d8, w8⟩ := DataW.trod_int Tryz.underlying3 g62
              simp only [List.cons.injEq, and_true] at e0 e1 e2 e3 e4 e5 e6 e7 e8
              subst e0 e1 e2 e3 e4 e5 e6 e7 e8 d0 d1 d2 d3 d4 d5
              have hD : D i = .agg [.lit (.int .i64 z0), .lit (.int .i64 z1), .lit (.int .i64 z2), .lit (.string s3.data.toList), .lit (.string s4.data.toList), .lit (.string s5.data.toList), y6.1] := congrArg Prod.fst hxy
              have hin : ∀ x ∈ (D i).weights Tryz.prog 38, x ≤ reachBytes := fun x hx => hwt x (by
                simp only [DataW.weights, Tryz.underlying22, List.mem_cons, List.mem_append]
                exact Or.inr (Or.inl (mem_all hi x hx)))
              have b3 := hin s3.data.toList.length (by simp [hD, DataW.weights, Tryz.underlying38, DataW.weightsEach])
              have b4 := hin s4.data.toList.length (by simp [hD, DataW.weights, Tryz.underlying38, DataW.weightsEach])
              have b5 := hin s5.data.toList.length (by simp [hD, DataW.weights, Tryz.underlying38, DataW.weightsEach])
              have b3' := reach_le b3
              have b4' := reach_le b4
              have b5' := reach_le b5
              rw [bsz] at b3' b4' b5'
              have q0 := wf_i64 w0
              have q1 := wf_i64 w1
              have q2 := wf_i64 w2
              refine ⟨⟨z0, z1, z2, s3, s4, s5, z6, z7, z8⟩, fun _ => ⟨fun r u hu => ?_, ⟨q0.1, q0.2, q1.1, q1.2, q2.1, q2.2, b3', b4', b5'⟩⟩⟩
              have hr : r < 9 := (List.getElem?_eq_some_iff.1 hu).1
              have hc := hcell r (by omega)
              rw [Go.Deep.add_add] at hc
              rw [hc]
              exact hu
      · exact ⟨⟨0, 0, 0, emp0, emp0, emp0, 0, 0, 0⟩, fun h => absurd h hi⟩
    obtain ⟨f, hf2⟩ := Classical.skolem.1 each
    have hlen : ((List.range len).map f).length = len := by simp
    have hby : (len + 13) * 96 ≤ 140737488355328 := by
      have := hwt ((len + (m - len)) * 96) (by
        simp only [DataW.weights, Tryz.underlying22, Tryz.bytes38, List.mem_cons, List.length_map, List.length_range]
        exact Or.inl trivial)
      have := reach_le this
      omega
    refine ⟨(List.range len).map f, .inr ⟨a, m, by rw [hlen], fun j u hu => ?_⟩, fun x hx => ?_, by rw [hlen]; exact hby, .inr ⟨_, _, rfl, by simp⟩⟩
    · have hj : j < len * 9 := by
        have := (List.getElem?_eq_some_iff.1 hu).1
        rw [flatO_len, hlen] at this
        exact this
      have hq : j / 9 < len := by omega
      have hr : j % 9 < 9 := by omega
      have he : j = j / 9 * 9 + j % 9 := by omega
      have hg := flatO_get ((List.range len).map f) (j / 9) (f (j / 9)) (by simp [hq]) (j % 9) hr
      rw [← he, hu] at hg
      have := (hf2 (j / 9) hq).1 (j % 9) u hg.symm
      rw [← he] at this
      exact this
    · obtain ⟨j, hj, rfl⟩ := List.mem_map.1 hx
      exact (hf2 j (List.mem_range.1 hj)).2
end Go.Proofs.YtbifmhbkmnofiaaGreat
