import Derived.Test.YtbifmhbkmnofiaaGreatNe
namespace Go.Proofs.YtbifmhbkmnofiaaGreat
open Go.RowKit
set_option linter.unusedVariables false
set_option linter.unusedSimpArgs false
theorem RowOk.clear {ex ex' : Tag → Prop} {w : World} {N : Nat} {own : Nat → Tag} {j : Nat} {v : Value} {e : TypeId} {size n : Nat} {xs : List Value} (h : RowOk ex w N own j v e size n xs) (hn : ¬ ex (.row j)) : RowOk ex' w N own j v e size n xs := ⟨fun _ => h.own_ hn, h.tag⟩
theorem RowOk.mk_ {ex : Tag → Prop} {w : World} {N : Nat} {own : Nat → Tag} {j : Nat} {v : Value} {e : TypeId} {size n : Nat} {xs : List Value} (h : w.ownsRow N e size v n xs) (ht : ∀ b, v.ownBlock = some b → own b = .row j) : RowOk ex w N own j v e size n xs := ⟨fun _ => h, fun b hb => ⟨ht b hb, World.ownsRow.lt h b hb⟩⟩
theorem map_set_same {α β : Type} (f : α → β) (l : List α) (i : Nat) (x x' : α) (hx : l[i]? = some x) (he : f x' = f x) : (l.set i x').map f = l.map f := by
  apply List.ext_getElem?
  intro j
  rw [List.getElem?_map, List.getElem?_map, List.getElem?_set]
  by_cases e : i = j
  · subst e
    rw [if_pos rfl, hx]
    have := (List.getElem?_eq_some_iff.1 hx).1
    rw [if_pos this]
    simp [he]
  · rw [if_neg e]
theorem get_set {α : Type} {l : List α} {i j : Nat} {x y : α} (h : (l.set i x)[j]? = some y) : (j = i ∧ y = x) ∨ (j ≠ i ∧ l[j]? = some y) := by
  rw [List.getElem?_set] at h
  by_cases e : i = j
  · rw [if_pos e] at h
    split at h
    · exact .inl ⟨e.symm, by simpa using h.symm⟩
    · cases h
  · rw [if_neg e] at h
    exact .inr ⟨fun h => e h.symm, h⟩
theorem get_push {α : Type} {l : List α} {j : Nat} {x y : α} (h : (l ++ [x])[j]? = some y) : (j = l.length ∧ y = x) ∨ (j ≠ l.length ∧ l[j]? = some y) := by
  by_cases e : j = l.length
  · subst e
    simp at h
    exact .inl ⟨rfl, h.symm⟩
  · refine .inr ⟨e, ?_⟩
    by_cases hl : j < l.length
    · rwa [List.getElem?_append_left hl] at h
    · rw [List.getElem?_append_right (by omega)] at h
      have : j - l.length ≠ 0 := by omega
      obtain ⟨q, hq⟩ : ∃ q, j - l.length = q + 1 := ⟨j - l.length - 1, by omega⟩
      rw [hq] at h
      simp at h
theorem Inv.set_sm {w : World} {N Wb k k' i : Nat} {own : Nat → Tag} {t : Sta} (h : Inv (fun g => g = .sm i) w N Wb k own t) {x x' : Sm} (hx : t.sms[i]? = some x) (hX : x'.X = x.X) (hY : x'.Y = x.Y) (hA : SmAt w N (fun b => own b = .sm i) x') (hf : Few k' { t with sms := t.sms.set i x' }) : Inv noTag w N Wb k' own { t with sms := t.sms.set i x' } where
  wbt := h.wbt
  wlo := h.wlo
  wb := fun _ => h.wb (by intro hh; cases hh)
  r0 := by
    have e := map_set_same (fun x : Sm => (x.X, x.Y)) t.sms i x x' hx (by rw [hX, hY])
    have := h.r0.clear (ex' := noTag) (by intro hh; cases hh)
    dsimp only
    rw [e, List.length_set]
    exact this
  r1 := h.r1.clear (by intro hh; cases hh)
  r2 := h.r2.clear (by intro hh; cases hh)
  r3 := h.r3.clear (by intro hh; cases hh)
  r4 := h.r4.clear (by intro hh; cases hh)
  r5 := h.r5.clear (by intro hh; cases hh)
  r6 := h.r6.clear (by intro hh; cases hh)
  sm := fun j y hy _ => by
    rcases get_set hy with ⟨rfl, rfl⟩ | ⟨hj, hy⟩
    · exact hA
    · exact h.sm j y hy (by intro hh; cases hh; exact hj rfl)
  so := fun j y hy _ => h.so j y hy (by intro hh; cases hh)
  gu := fun j y hy _ => h.gu j y hy (by intro hh; cases hh)
  we := fun j y hy _ => h.we j y hy (by intro hh; cases hh)
  li := fun j y hy _ => h.li j y hy (by intro hh; cases hh)
  le := fun j y hy _ => h.le j y hy (by intro hh; cases hh)
  few := hf
theorem Inv.set_so {w : World} {N Wb k k' i : Nat} {own : Nat → Tag} {t : Sta} (h : Inv (fun g => g = .so i) w N Wb k own t) {x x' : So} (hx : t.sos[i]? = some x) (hX : x'.A = x.A) (hY : x'.Y = x.Y) (hA : SoAt w N (fun b => own b = .so i) x') (hf : Few k' { t with sos := t.sos.set i x' }) : Inv noTag w N Wb k' own { t with sos := t.sos.set i x' } where
  wbt := h.wbt
  wlo := h.wlo
  wb := fun _ => h.wb (by intro hh; cases hh)
  r0 := h.r0.clear (by intro hh; cases hh)
  r1 := by
    have e := map_set_same (fun x : So => (x.A, x.Y)) t.sos i x x' hx (by rw [hX, hY])
    have := h.r1.clear (ex' := noTag) (by intro hh; cases hh)
    dsimp only
    rw [e, List.length_set]
    exact this
  r2 := h.r2.clear (by intro hh; cases hh)
  r3 := h.r3.clear (by intro hh; cases hh)
  r4 := h.r4.clear (by intro hh; cases hh)
  r5 := h.r5.clear (by intro hh; cases hh)
  r6 := h.r6.clear (by intro hh; cases hh)
  sm := fun j y hy _ => h.sm j y hy (by intro hh; cases hh)
  so := fun j y hy _ => by
    rcases get_set hy with ⟨rfl, rfl⟩ | ⟨hj, hy⟩
    · exact hA
    · exact h.so j y hy (by intro hh; cases hh; exact hj rfl)
  gu := fun j y hy _ => h.gu j y hy (by intro hh; cases hh)
  we := fun j y hy _ => h.we j y hy (by intro hh; cases hh)
  li := fun j y hy _ => h.li j y hy (by intro hh; cases hh)
  le := fun j y hy _ => h.le j y hy (by intro hh; cases hh)
  few := hf
theorem Inv.set_gu {w : World} {N Wb k k' i : Nat} {own : Nat → Tag} {t : Sta} (h : Inv (fun g => g = .gu i) w N Wb k own t) {x x' : Gu} (hx : t.gus[i]? = some x) (hX : x'.A = x.A) (hY : x'.Y = x.Y) (hA : GuAt w N (fun b => own b = .gu i) x') (hf : Few k' { t with gus := t.gus.set i x' }) : Inv noTag w N Wb k' own { t with gus := t.gus.set i x' } where
  wbt := h.wbt
  wlo := h.wlo
  wb := fun _ => h.wb (by intro hh; cases hh)
  r0 := h.r0.clear (by intro hh; cases hh)
  r1 := h.r1.clear (by intro hh; cases hh)
  r2 := by
    have e := map_set_same (fun x : Gu => (x.A, x.Y)) t.gus i x x' hx (by rw [hX, hY])
    have := h.r2.clear (ex' := noTag) (by intro hh; cases hh)
    dsimp only
    rw [e, List.length_set]
    exact this
  r3 := h.r3.clear (by intro hh; cases hh)
  r4 := h.r4.clear (by intro hh; cases hh)
  r5 := h.r5.clear (by intro hh; cases hh)
  r6 := h.r6.clear (by intro hh; cases hh)
  sm := fun j y hy _ => h.sm j y hy (by intro hh; cases hh)
  so := fun j y hy _ => h.so j y hy (by intro hh; cases hh)
  gu := fun j y hy _ => by
    rcases get_set hy with ⟨rfl, rfl⟩ | ⟨hj, hy⟩
    · exact hA
    · exact h.gu j y hy (by intro hh; cases hh; exact hj rfl)
  we := fun j y hy _ => h.we j y hy (by intro hh; cases hh)
  li := fun j y hy _ => h.li j y hy (by intro hh; cases hh)
  le := fun j y hy _ => h.le j y hy (by intro hh; cases hh)
  few := hf
theorem Inv.set_we {w : World} {N Wb k k' i : Nat} {own : Nat → Tag} {t : Sta} (h : Inv (fun g => g = .we i) w N Wb k own t) {x x' : We} (hx : t.wes[i]? = some x) (hX : x'.A = x.A) (hY : x'.Y = x.Y) (hA : WeAt w N (fun b => own b = .we i) x') (hf : Few k' { t with wes := t.wes.set i x' }) : Inv noTag w N Wb k' own { t with wes := t.wes.set i x' } where
  wbt := h.wbt
  wlo := h.wlo
  wb := fun _ => h.wb (by intro hh; cases hh)
  r0 := h.r0.clear (by intro hh; cases hh)
  r1 := h.r1.clear (by intro hh; cases hh)
  r2 := h.r2.clear (by intro hh; cases hh)
  r3 := by
    have e := map_set_same (fun x : We => (x.A, x.Y)) t.wes i x x' hx (by rw [hX, hY])
    have := h.r3.clear (ex' := noTag) (by intro hh; cases hh)
    dsimp only
    rw [e, List.length_set]
    exact this
  r4 := h.r4.clear (by intro hh; cases hh)
  r5 := h.r5.clear (by intro hh; cases hh)
  r6 := h.r6.clear (by intro hh; cases hh)
  sm := fun j y hy _ => h.sm j y hy (by intro hh; cases hh)
  so := fun j y hy _ => h.so j y hy (by intro hh; cases hh)
  gu := fun j y hy _ => h.gu j y hy (by intro hh; cases hh)
  we := fun j y hy _ => by
    rcases get_set hy with ⟨rfl, rfl⟩ | ⟨hj, hy⟩
    · exact hA
    · exact h.we j y hy (by intro hh; cases hh; exact hj rfl)
  li := fun j y hy _ => h.li j y hy (by intro hh; cases hh)
  le := fun j y hy _ => h.le j y hy (by intro hh; cases hh)
  few := hf
theorem Inv.push_sm {w : World} {N Wb k k' : Nat} {own : Nat → Tag} {t : Sta} (h : Inv (fun g => g = .world ∨ g = .row 0) w N Wb k own t) {x : Sm} {v' : Value} (hW : WbAt w Wb ({ t with v0 := v' } : Sta).vs) (hr : w.ownsRow N 54 2 v' (t.sms.length + 1) (flatP (t.sms.map fun x => (x.X, x.Y)) ++ [pt x.X, pt x.Y])) (ht : ∀ b, v'.ownBlock = some b → own b = .row 0) (hA : SmAt w N (fun b => own b = .sm t.sms.length) x) (hf : Few k' { t with v0 := v', sms := t.sms ++ [x] }) : Inv noTag w N Wb k' own { t with v0 := v', sms := t.sms ++ [x] } where
  wbt := h.wbt
  wlo := h.wlo
  wb := fun _ => hW
  r0 := by
    dsimp only
    rw [List.map_append, flatP_append, List.length_append]
    exact RowOk.mk_ hr ht
  r1 := h.r1.clear (by intro hh; rcases hh with hh | hh <;> cases hh)
  r2 := h.r2.clear (by intro hh; rcases hh with hh | hh <;> cases hh)
  r3 := h.r3.clear (by intro hh; rcases hh with hh | hh <;> cases hh)
  r4 := h.r4.clear (by intro hh; rcases hh with hh | hh <;> cases hh)
  r5 := h.r5.clear (by intro hh; rcases hh with hh | hh <;> cases hh)
  r6 := h.r6.clear (by intro hh; rcases hh with hh | hh <;> cases hh)
  sm := fun j y hy _ => by
    rcases get_push hy with ⟨rfl, rfl⟩ | ⟨hj, hy⟩
    · exact hA
    · exact h.sm j y hy (by intro hh; rcases hh with hh | hh <;> cases hh)
  so := fun j y hy _ => h.so j y hy (by intro hh; rcases hh with hh | hh <;> cases hh)
  gu := fun j y hy _ => h.gu j y hy (by intro hh; rcases hh with hh | hh <;> cases hh)
  we := fun j y hy _ => h.we j y hy (by intro hh; rcases hh with hh | hh <;> cases hh)
  li := fun j y hy _ => h.li j y hy (by intro hh; rcases hh with hh | hh <;> cases hh)
  le := fun j y hy _ => h.le j y hy (by intro hh; rcases hh with hh | hh <;> cases hh)
  few := hf
theorem Inv.push_so {w : World} {N Wb k k' : Nat} {own : Nat → Tag} {t : Sta} (h : Inv (fun g => g = .world ∨ g = .row 1) w N Wb k own t) {x : So} {v' : Value} (hW : WbAt w Wb ({ t with v1 := v' } : Sta).vs) (hr : w.ownsRow N 69 2 v' (t.sos.length + 1) (flatP (t.sos.map fun x => (x.A, x.Y)) ++ [pt x.A, pt x.Y])) (ht : ∀ b, v'.ownBlock = some b → own b = .row 1) (hA : SoAt w N (fun b => own b = .so t.sos.length) x) (hf : Few k' { t with v1 := v', sos := t.sos ++ [x] }) : Inv noTag w N Wb k' own { t with v1 := v', sos := t.sos ++ [x] } where
  wbt := h.wbt
  wlo := h.wlo
  wb := fun _ => hW
  r0 := h.r0.clear (by intro hh; rcases hh with hh | hh <;> cases hh)
  r1 := by
    dsimp only
    rw [List.map_append, flatP_append, List.length_append]
    exact RowOk.mk_ hr ht
  r2 := h.r2.clear (by intro hh; rcases hh with hh | hh <;> cases hh)
  r3 := h.r3.clear (by intro hh; rcases hh with hh | hh <;> cases hh)
  r4 := h.r4.clear (by intro hh; rcases hh with hh | hh <;> cases hh)
  r5 := h.r5.clear (by intro hh; rcases hh with hh | hh <;> cases hh)
  r6 := h.r6.clear (by intro hh; rcases hh with hh | hh <;> cases hh)
  sm := fun j y hy _ => h.sm j y hy (by intro hh; rcases hh with hh | hh <;> cases hh)
  so := fun j y hy _ => by
    rcases get_push hy with ⟨rfl, rfl⟩ | ⟨hj, hy⟩
    · exact hA
    · exact h.so j y hy (by intro hh; rcases hh with hh | hh <;> cases hh)
  gu := fun j y hy _ => h.gu j y hy (by intro hh; rcases hh with hh | hh <;> cases hh)
  we := fun j y hy _ => h.we j y hy (by intro hh; rcases hh with hh | hh <;> cases hh)
  li := fun j y hy _ => h.li j y hy (by intro hh; rcases hh with hh | hh <;> cases hh)
  le := fun j y hy _ => h.le j y hy (by intro hh; rcases hh with hh | hh <;> cases hh)
  few := hf
theorem Inv.push_gu {w : World} {N Wb k k' : Nat} {own : Nat → Tag} {t : Sta} (h : Inv (fun g => g = .world ∨ g = .row 2) w N Wb k own t) {x : Gu} {v' : Value} (hW : WbAt w Wb ({ t with v2 := v' } : Sta).vs) (hr : w.ownsRow N 82 2 v' (t.gus.length + 1) (flatP (t.gus.map fun x => (x.A, x.Y)) ++ [pt x.A, pt x.Y])) (ht : ∀ b, v'.ownBlock = some b → own b = .row 2) (hA : GuAt w N (fun b => own b = .gu t.gus.length) x) (hf : Few k' { t with v2 := v', gus := t.gus ++ [x] }) : Inv noTag w N Wb k' own { t with v2 := v', gus := t.gus ++ [x] } where
  wbt := h.wbt
  wlo := h.wlo
  wb := fun _ => hW
  r0 := h.r0.clear (by intro hh; rcases hh with hh | hh <;> cases hh)
  r1 := h.r1.clear (by intro hh; rcases hh with hh | hh <;> cases hh)
  r2 := by
    dsimp only
    rw [List.map_append, flatP_append, List.length_append]
    exact RowOk.mk_ hr ht
  r3 := h.r3.clear (by intro hh; rcases hh with hh | hh <;> cases hh)
  r4 := h.r4.clear (by intro hh; rcases hh with hh | hh <;> cases hh)
  r5 := h.r5.clear (by intro hh; rcases hh with hh | hh <;> cases hh)
  r6 := h.r6.clear (by intro hh; rcases hh with hh | hh <;> cases hh)
  sm := fun j y hy _ => h.sm j y hy (by intro hh; rcases hh with hh | hh <;> cases hh)
  so := fun j y hy _ => h.so j y hy (by intro hh; rcases hh with hh | hh <;> cases hh)
  gu := fun j y hy _ => by
    rcases get_push hy with ⟨rfl, rfl⟩ | ⟨hj, hy⟩
    · exact hA
    · exact h.gu j y hy (by intro hh; rcases hh with hh | hh <;> cases hh)
  we := fun j y hy _ => h.we j y hy (by intro hh; rcases hh with hh | hh <;> cases hh)
  li := fun j y hy _ => h.li j y hy (by intro hh; rcases hh with hh | hh <;> cases hh)
  le := fun j y hy _ => h.le j y hy (by intro hh; rcases hh with hh | hh <;> cases hh)
  few := hf
theorem Inv.push_we {w : World} {N Wb k k' : Nat} {own : Nat → Tag} {t : Sta} (h : Inv (fun g => g = .world ∨ g = .row 3) w N Wb k own t) {x : We} {v' : Value} (hW : WbAt w Wb ({ t with v3 := v' } : Sta).vs) (hr : w.ownsRow N 92 2 v' (t.wes.length + 1) (flatP (t.wes.map fun x => (x.A, x.Y)) ++ [pt x.A, pt x.Y])) (ht : ∀ b, v'.ownBlock = some b → own b = .row 3) (hA : WeAt w N (fun b => own b = .we t.wes.length) x) (hf : Few k' { t with v3 := v', wes := t.wes ++ [x] }) : Inv noTag w N Wb k' own { t with v3 := v', wes := t.wes ++ [x] } where
  wbt := h.wbt
  wlo := h.wlo
  wb := fun _ => hW
  r0 := h.r0.clear (by intro hh; rcases hh with hh | hh <;> cases hh)
  r1 := h.r1.clear (by intro hh; rcases hh with hh | hh <;> cases hh)
  r2 := h.r2.clear (by intro hh; rcases hh with hh | hh <;> cases hh)
  r3 := by
    dsimp only
    rw [List.map_append, flatP_append, List.length_append]
    exact RowOk.mk_ hr ht
  r4 := h.r4.clear (by intro hh; rcases hh with hh | hh <;> cases hh)
  r5 := h.r5.clear (by intro hh; rcases hh with hh | hh <;> cases hh)
  r6 := h.r6.clear (by intro hh; rcases hh with hh | hh <;> cases hh)
  sm := fun j y hy _ => h.sm j y hy (by intro hh; rcases hh with hh | hh <;> cases hh)
  so := fun j y hy _ => h.so j y hy (by intro hh; rcases hh with hh | hh <;> cases hh)
  gu := fun j y hy _ => h.gu j y hy (by intro hh; rcases hh with hh | hh <;> cases hh)
  we := fun j y hy _ => by
    rcases get_push hy with ⟨rfl, rfl⟩ | ⟨hj, hy⟩
    · exact hA
    · exact h.we j y hy (by intro hh; rcases hh with hh | hh <;> cases hh)
  li := fun j y hy _ => h.li j y hy (by intro hh; rcases hh with hh | hh <;> cases hh)
  le := fun j y hy _ => h.le j y hy (by intro hh; rcases hh with hh | hh <;> cases hh)
  few := hf
theorem Inv.push_le {w : World} {N Wb k k' : Nat} {own : Nat → Tag} {t : Sta} (h : Inv (fun g => g = .world ∨ g = .row 6 ∨ ∃ i, g = .le i ∧ t.les.length ≤ i) w N Wb k own t) {x : Lent} {v' : Value} (hW : WbAt w Wb ({ t with v6 := v' } : Sta).vs) (hr : w.ownsRow N 41 1 v' (t.les.length + 1) (t.les.map (·.v) ++ [x.v])) (ht : ∀ b, v'.ownBlock = some b → own b = .row 6) (hA : LeAt w N (fun b => own b = .le t.les.length) x) (hf : Few k' { t with v6 := v', les := t.les ++ [x] }) : Inv noTag w N Wb k' own { t with v6 := v', les := t.les ++ [x] } where
  wbt := h.wbt
  wlo := h.wlo
  wb := fun _ => hW
  r0 := h.r0.clear (by rintro (hh | hh | ⟨_, hh, _⟩) <;> cases hh)
  r1 := h.r1.clear (by rintro (hh | hh | ⟨_, hh, _⟩) <;> cases hh)
  r2 := h.r2.clear (by rintro (hh | hh | ⟨_, hh, _⟩) <;> cases hh)
  r3 := h.r3.clear (by rintro (hh | hh | ⟨_, hh, _⟩) <;> cases hh)
  r4 := h.r4.clear (by rintro (hh | hh | ⟨_, hh, _⟩) <;> cases hh)
  r5 := h.r5.clear (by rintro (hh | hh | ⟨_, hh, _⟩) <;> cases hh)
  r6 := by
    dsimp only
    rw [List.map_append, List.length_append]
    exact RowOk.mk_ hr ht
  sm := fun j y hy _ => h.sm j y hy (by rintro (hh | hh | ⟨_, hh, _⟩) <;> cases hh)
  so := fun j y hy _ => h.so j y hy (by rintro (hh | hh | ⟨_, hh, _⟩) <;> cases hh)
  gu := fun j y hy _ => h.gu j y hy (by rintro (hh | hh | ⟨_, hh, _⟩) <;> cases hh)
  we := fun j y hy _ => h.we j y hy (by rintro (hh | hh | ⟨_, hh, _⟩) <;> cases hh)
  li := fun j y hy _ => h.li j y hy (by rintro (hh | hh | ⟨_, hh, _⟩) <;> cases hh)
  le := fun j y hy _ => by
    rcases get_push hy with ⟨rfl, rfl⟩ | ⟨hj, hy⟩
    · exact hA
    · refine h.le j y hy ?_
      rintro (hh | hh | ⟨i, hh, hi⟩)
      · cases hh
      · cases hh
      · cases hh
        have := (List.getElem?_eq_some_iff.1 hy).1
        omega
  few := hf
theorem get_push4 {α : Type} {l : List α} {j : Nat} {a b c d y : α} (h : (l ++ [a, b, c, d])[j]? = some y) : (j = l.length ∧ y = a) ∨ (j = l.length + 1 ∧ y = b) ∨ (j = l.length + 2 ∧ y = c) ∨ (j = l.length + 3 ∧ y = d) ∨ l[j]? = some y := by
  by_cases hl : j < l.length
  · rw [List.getElem?_append_left hl] at h
    exact .inr (.inr (.inr (.inr h)))
  · rw [List.getElem?_append_right (by omega)] at h
    obtain ⟨q, rfl⟩ : ∃ q, j = l.length + q := ⟨j - l.length, by omega⟩
    rw [Nat.add_sub_cancel_left] at h
    match q, h with
    | 0, h => exact .inl ⟨rfl, by simpa using h.symm⟩
    | 1, h => exact .inr (.inl ⟨rfl, by simpa using h.symm⟩)
    | 2, h => exact .inr (.inr (.inl ⟨rfl, by simpa using h.symm⟩))
    | 3, h => exact .inr (.inr (.inr (.inl ⟨rfl, by simpa using h.symm⟩)))
    | q + 4, h => simp at h
theorem Inv.push_li {w : World} {N Wb k k' : Nat} {own : Nat → Tag} {t : Sta} (h : Inv (fun g => g = .world ∨ g = .row 4 ∨ g = .row 5 ∨ ∃ i, g = .li i ∧ t.lis.length ≤ i) w N Wb k own t) {a b c d : Came} {v' u' : Value} (hW : WbAt w Wb ({ t with v4 := v', v5 := u' } : Sta).vs) (hr : w.ownsRow N 41 1 v' (t.lis.length + 4) (t.lis.map (·.v) ++ [a.v, b.v, c.v, d.v])) (hm : w.ownsRow N 3 1 u' (t.lis.length + 4) ((t.lis.map fun x => Value.int .i64 x.m) ++ [.int .i64 a.m, .int .i64 b.m, .int .i64 c.m, .int .i64 d.m])) (ht : ∀ b, v'.ownBlock = some b → own b = .row 4) (hu : ∀ b, u'.ownBlock = some b → own b = .row 5)
    (ha : LiAt w N (fun q => own q = .li t.lis.length) a) (hb : LiAt w N (fun q => own q = .li (t.lis.length + 1)) b) (hc : LiAt w N (fun q => own q = .li (t.lis.length + 2)) c) (hd : LiAt w N (fun q => own q = .li (t.lis.length + 3)) d) (hf : Few k' { t with v4 := v', v5 := u', lis := t.lis ++ [a, b, c, d] }) : Inv noTag w N Wb k' own { t with v4 := v', v5 := u', lis := t.lis ++ [a, b, c, d] } where
  wbt := h.wbt
  wlo := h.wlo
  wb := fun _ => hW
  r0 := h.r0.clear (by rintro (hh | hh | hh | ⟨_, hh, _⟩) <;> cases hh)
  r1 := h.r1.clear (by rintro (hh | hh | hh | ⟨_, hh, _⟩) <;> cases hh)
  r2 := h.r2.clear (by rintro (hh | hh | hh | ⟨_, hh, _⟩) <;> cases hh)
  r3 := h.r3.clear (by rintro (hh | hh | hh | ⟨_, hh, _⟩) <;> cases hh)
  r4 := by
    dsimp only
    rw [List.map_append, List.length_append]
    exact RowOk.mk_ hr ht
  r5 := by
    dsimp only
    rw [List.map_append, List.length_append]
    exact RowOk.mk_ hm hu
  r6 := h.r6.clear (by rintro (hh | hh | hh | ⟨_, hh, _⟩) <;> cases hh)
  sm := fun j y hy _ => h.sm j y hy (by rintro (hh | hh | hh | ⟨_, hh, _⟩) <;> cases hh)
  so := fun j y hy _ => h.so j y hy (by rintro (hh | hh | hh | ⟨_, hh, _⟩) <;> cases hh)
  gu := fun j y hy _ => h.gu j y hy (by rintro (hh | hh | hh | ⟨_, hh, _⟩) <;> cases hh)
  we := fun j y hy _ => h.we j y hy (by rintro (hh | hh | hh | ⟨_, hh, _⟩) <;> cases hh)
  li := fun j y hy _ => by
    rcases get_push4 hy with ⟨rfl, rfl⟩ | ⟨rfl, rfl⟩ | ⟨rfl, rfl⟩ | ⟨rfl, rfl⟩ | hy
    · exact ha
    · exact hb
    · exact hc
    · exact hd
    · refine h.li j y hy ?_
      rintro (hh | hh | hh | ⟨i, hh, hi⟩)
      · cases hh
      · cases hh
      · cases hh
      · cases hh
        have := (List.getElem?_eq_some_iff.1 hy).1
        omega
  le := fun j y hy _ => h.le j y hy (by rintro (hh | hh | hh | ⟨_, hh, _⟩) <;> cases hh)
  few := hf
end Go.Proofs.YtbifmhbkmnofiaaGreat
namespace Go.Proofs.YtbifmhbkmnofiaaGreat
open Go.RowKit
set_option linter.unusedVariables false
set_option linter.unusedSimpArgs false
theorem slv_owns {w : World} {N n : Nat} {e : TypeId} {v : Value} {xs : List Value} (h : w.ownsRow N e 1 v n xs) : SlV w v xs := by
  have hl : xs.length = n := by have := h.1; omega
  rcases h.2 with ⟨rfl, h0⟩ | ⟨g, cap, cur, rfl, _⟩
  · exact ⟨none, 0, by rw [hl, h0], fun hp => by omega⟩
  · refine ⟨some ⟨g, 0, none⟩, cap, by rw [hl], fun _ => ⟨g, 0, rfl, fun j u hu => ?_⟩⟩
    have := World.ownsRow.cells h (g := g) rfl j u hu
    rwa [Addr.add_mid] at this
theorem Inv.looked {w : World} {N Wb k : Nat} {own : Nat → Tag} {t : Sta} (h : Inv noTag w N Wb k own t) (hk : k ≤ 2000000000000000000) : Looked w Wb t.lis t.les := by
  have hw := h.wb (fun hh => hh)
  have hf := h.few
  exact ⟨⟨t.v4, hw.cell 4, slv_owns (h.r4.own_ (fun hh => hh))⟩, ⟨t.v5, hw.cell 5, slv_owns (h.r5.own_ (fun hh => hh))⟩, ⟨t.v6, hw.cell 6, slv_owns (h.r6.own_ (fun hh => hh))⟩,
    fun x hx => by
      obtain ⟨i, hi⟩ := List.getElem?_of_mem hx
      have := h.li i x hi (fun hh => hh)
      exact ⟨this.fl, this.m0, this.m1, this.n1⟩,
    fun x hx => by
      obtain ⟨i, hi⟩ := List.getElem?_of_mem hx
      have := h.le i x hi (fun hh => hh)
      exact ⟨this.fl, this.n1⟩, by have := hf.lis; omega, by have := hf.les; omega⟩
theorem Fr.drewN {S : Nat → Prop} {a w : World} (h : Fr S a w) (m : Nat) : Fr S a (w.drewN m) := ⟨h.1, h.2, h.3, h.4, h.5⟩
theorem Inv.drewN {ex : Tag → Prop} {w : World} {N Wb k : Nat} {own : Nat → Tag} {t : Sta} (h : Inv ex w N Wb k own t) (m : Nat) : Inv ex (w.drewN m) N Wb k own t :=
  h.fr (S := fun _ => False) ((Fr.refl _ w).drewN m) (fun _ _ hh => hh.elim) (fun _ _ => rfl)
/-- a step's frame: new tags for new blocks, and none but ours has turned -/
structure Nxt (w w' : World) (own own' : Nat → Tag) : Prop where
  tag : ∀ b, b < w.heap.size → own' b = own b
  fr : Fr (fun b => (own b).ours) w w'
theorem Nxt.refl (w : World) (own : Nat → Tag) : Nxt w w own own := ⟨fun _ _ => rfl, Fr.refl _ _⟩
theorem Nxt.trans {a b c : World} {o p q : Nat → Tag} (h : Nxt a b o p) (k : Nxt b c p q) : Nxt a c o q := by
  have hz := h.fr.size
  refine ⟨fun x hx => by rw [k.tag x (by omega), h.tag x hx], ⟨k.fr.os.trans h.fr.os, k.fr.tape.trans h.fr.tape, k.fr.output.trans h.fr.output, Nat.le_trans hz k.fr.size, fun i hi hn => (k.fr.block i (by omega) (by rw [h.tag i hi]; exact hn)).trans (h.fr.block i hi hn)⟩⟩
theorem Nxt.of_below {w w' : World} (own own' : Nat → Tag) (h : Below w.heap.size w w') (ht : ∀ b, b < w.heap.size → own' b = own b) : Nxt w w' own own' := ⟨ht, Fr.of_below h⟩
theorem Nxt.of_fr {w w' : World} {own own' : Nat → Tag} {S : Nat → Prop} (h : Fr S w w') (hS : ∀ b, b < w.heap.size → S b → (own b).ours) (ht : ∀ b, b < w.heap.size → own' b = own b) : Nxt w w' own own' := ⟨ht, h.mono hS⟩
/-- new tags for new blocks -/
def newTag (own : Nat → Tag) (n : Nat) (g : Tag) : Nat → Tag := fun b => if b < n then own b else g
theorem newTag_old (own : Nat → Tag) (n : Nat) (g : Tag) : ∀ b, b < n → newTag own n g b = own b := fun b hb => if_pos hb
theorem newTag_new (own : Nat → Tag) (n : Nat) (g : Tag) (b : Nat) (hb : n ≤ b) : newTag own n g b = g := if_neg (by omega)
/-- new blocks alone -/
theorem Inv.below {ex : Tag → Prop} {w w' : World} {N Wb k : Nat} {own : Nat → Tag} {t : Sta} (h : Inv ex w N Wb k own t) (hb : Below w.heap.size w w') (g : Tag) : Inv ex w' N Wb k (newTag own w.heap.size g) t :=
  h.fr (S := fun _ => False) (Fr.of_below hb) (fun _ _ hh => hh.elim) (newTag_old _ _ _)
theorem looks_inv (N Wb k : Nat) (own : Nat → Tag) (t : Sta) (w : World) (h : Inv noTag w N Wb k own t) (hk : k ≤ 2000000000000000000) :
    Calls Tryz.prog 10 #[.pointer (some ⟨Wb, 0, none⟩)] w fun e w' => e = .returned (.bool true) ∧ ∃ m, w' = w.drewN m :=
  looks_any Wb t.lis t.les w (h.looked hk)
theorem Few.lent {k : Nat} {t : Sta} (h : Few k t) (hl : t.les.length + 1 ≤ k) (v : Value) (x : Lent) : Few k { t with v6 := v, les := t.les ++ [x] } :=
  ⟨h.sms, h.sos, h.gus, h.wes, h.lis, by simpa using hl, h.txt, h.cgu, h.cwe⟩
theorem Few.came {k : Nat} {t : Sta} (h : Few k t) (hl : t.lis.length + 4 ≤ 4 * k) (v u : Value) (a b c d : Came) : Few k { t with v4 := v, v5 := u, lis := t.lis ++ [a, b, c, d] } :=
  ⟨h.sms, h.sos, h.gus, h.wes, by simpa using hl, h.les, h.txt, h.cgu, h.cwe⟩
theorem whole_inv (s : ByteArray) (g cap N Wb k : Nat) (own : Nat → Tag) (t : Sta) (w : World) (h : Inv noTag w N Wb k own t) (hwr : Wr w g (bts s ++ marks8 8) cap) (hcap : cap ≤ 9223372036854775807) (hg : own g = .le t.les.length) (hgN : N ≤ g) (hs : s.size ≤ 140737488351232) (hl : t.les.length + 1 ≤ k) (hk : k * 24 ≤ 140737488355328) :
    Calls Tryz.prog 28 #[.pointer (some ⟨Wb, 0, none⟩), .slice (some ⟨g, 0, none⟩) (s.size + 8) cap, .string s] w fun e w' => e = .returned (.bool true) ∧ ∃ own' v', Inv noTag w' N Wb k own' { t with v6 := v', les := t.les ++ [⟨.slice (some ⟨g, 0, none⟩) (s.size + 8) cap, s.size + 8⟩] } ∧ Nxt w w' own own' := by
  have hW := h.wb (fun hh => hh)
  have hr := h.r6.own_ (fun hh => hh)
  have ht := h.r6.tag
  have hlen : (t.les.map (·.v)).length = t.les.length := List.length_map _
  have hNz : N ≤ w.heap.size := by have := h.wlo; omega
  refine (whole_any s g cap Wb N t.vs t.v6 (t.les.map (·.v)) w hs hW rfl rfl (by rw [hlen]; exact hr) hwr hcap (fun e => ?_) (fun e => ?_) (fun e => ?_) hNz (by rw [hlen]; omega)).mono ?_
  · rw [e, h.wbt] at hg; cases hg
  · rw [(ht g e).1] at hg; cases hg
  · have := (ht Wb e).1; rw [h.wbt] at this; cases this
  · rintro e w' ⟨rfl, vt', hW', hr', hwr', hob, hF⟩
    rw [hlen] at hr'
    have hgl : g < w'.heap.size := by
      obtain ⟨u, hu⟩ := Option.isSome_iff_exists.1 (hwr'.room 0 (by have := hwr'.le; simp at this; omega)).1
      exact World.block_lt_of_cell? w' _ hu
    have hglw : g < w.heap.size := by
      obtain ⟨u, hu⟩ := Option.isSome_iff_exists.1 (hwr.room 0 (by have := hwr.le; simp [marks8] at this; omega)).1
      exact World.block_lt_of_cell? w _ hu
    have hex : ∀ b, b < w.heap.size → (b = g ∨ b = Wb ∨ some b = t.v6.ownBlock) → (own b = .world ∨ own b = .row 6 ∨ ∃ i, own b = .le i ∧ t.les.length ≤ i) := by
      rintro b hb (rfl | rfl | hh)
      · exact .inr (.inr ⟨_, hg, Nat.le_refl _⟩)
      · exact .inl h.wbt
      · exact .inr (.inl (ht b hh.symm).1)
    have hI := (h.weak (ex' := fun q => q = .world ∨ q = .row 6 ∨ ∃ i, q = .le i ∧ t.les.length ≤ i) (fun _ hh => hh.elim)).fr hF hex (newTag_old own w.heap.size (.row 6))
    have hgt : newTag own w.heap.size (.row 6) g = .le t.les.length := by rw [newTag_old _ _ _ g hglw]; exact hg
    refine ⟨rfl, newTag own w.heap.size (.row 6), vt', hI.push_le hW' hr' (fun b hb => ?_) ⟨⟨_, cap, rfl, fun _ => ⟨g, 0, rfl, fun j hj => ?_⟩⟩, by show s.size + 8 ≤ _; omega, fun b hb => ?_⟩ (h.few.lent hl _ _), Nxt.of_fr hF (fun b hb hh => ?_) (newTag_old _ _ _)⟩
    · rcases hob with q | ⟨b', hb', q⟩
      · rw [q] at hb
        rw [newTag_old _ _ _ b (ht b hb).2.2]
        exact (ht b hb).1
      · rw [q] at hb
        cases hb
        exact newTag_new _ _ _ _ hb'
    · have hj' : j < s.size + 8 := hj
      have := hwr'.cells j (by simpa using hj')
      rw [List.getElem?_replicate, if_pos hj'] at this
      rw [Nat.zero_add]
      exact this
    · cases hb
      exact ⟨hgt, hgN, hgl⟩
    · rcases hex b hb hh with q | q | ⟨i, q, _⟩ <;> rw [q] <;> exact trivial
end Go.Proofs.YtbifmhbkmnofiaaGreat
