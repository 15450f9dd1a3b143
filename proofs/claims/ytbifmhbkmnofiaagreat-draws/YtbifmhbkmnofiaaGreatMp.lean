import Derived.Test.YtbifmhbkmnofiaaGreatMo
import Derived.Deep.DeepCutAuto
import Derived.Deep.CutBlock
import Derived.Test.YtbifmhbkmnofiaaGreatMm
import Derived.OrdersHeld
namespace Go.Proofs.YtbifmhbkmnofiaaGreat
open Go.RowKit
set_option linter.unusedVariables false
set_option linter.unusedSimpArgs false
theorem wrapQ (n W : Nat) (hn : 0 < n) (hn' : n ≤ 9223372036854775807) : ((((n : Int) - 1) / (W : Int)) * (W : Int)) = (((n - 1) - (n - 1) % W : Nat) : Int) := by
  have e : ((n : Int) - 1) = ((n - 1 : Nat) : Int) := by omega
  rw [e, ← Int.natCast_ediv, ← Int.natCast_mul]
  congr 1
  have := Nat.div_add_mod (n - 1) W
  rw [Nat.mul_comm] at this
  omega
set_option maxRecDepth 20000 in
set_option maxHeartbeats 1000000 in
theorem bad_any (st sk : Int) (W : Nat) (cs : List Int) (y : WS) (br : Bool) (Y g cap : Nat) (w : World)
    (c0 : w.cell? ⟨Y, 0, none⟩ = some (.int .i64 st)) (c1 : w.cell? ⟨Y, 1, none⟩ = some (.int .i64 (W : Int))) (c2 : w.cell? ⟨Y, 2, none⟩ = some (.int .i64 sk)) (c3 : w.cell? ⟨Y, 3, none⟩ = some (.slice (some ⟨g, 0, none⟩) cs.length cap))
    (hc : ∀ j, j < cs.length → w.cell? ⟨g, j, none⟩ = some (.int .u8 (cs[j]?.getD 0))) (hn : 0 < cs.length) (hn' : cs.length ≤ 4611686018427387904) (hW : 2 ≤ W) (hW' : W ≤ 50) (hA : Ab cs W y) :
    Calls Tryz.prog 71 #[.pointer (some ⟨Y, 0, none⟩)] w fun e w' => e = .returned (.int .i64 (badI st sk cs W y)) ∧ ∃ m, w' = w.drewN m := by
  obtain ⟨t, ht, ht1, htl, hte, htx⟩ := hA.run hn
  have hcnt := hA.win hn
  have hbad : Hd (badI st sk cs W y = if st ≤ (t : Int) then 4 else if cs[cs.length - 1]?.getD 0 = cs[(cs.length - 1) - (cs.length - 1) % W]?.getD 0 ∧ sk ≤ (cntF cs ((cs.length - 1) - (cs.length - 1) % W) ((cs.length - 1) % W + 1) : Int) then 5 else 0) := hid (by unfold badI; rw [ht, hcnt])
  have Hte := hid hte
  have Htx := hid htx
  have Hc := hid hc
  have hml := Nat.mod_le (cs.length - 1) W
  clear hA ht hcnt hte htx hc
  have hlast := Hc.out (cs.length - 1) (by omega)
  have e1 : ((cs.length : Int) - 1).toNat = cs.length - 1 := by omega
  have hQ := hid (wrapQ cs.length W hn (by omega))
  go_enter Tryz.func71, Tryz.ntmps71
  go_upto_block 0 with fail
  go_cut [5] (fun v wr => v = .int .i64 t ∧ wr = w)
  case first =>
    go_wp2
    go_loopw [5] (fun v wr => ∃ r : Nat, r ≤ t ∧ v = .int .i64 r ∧ wr = w) (fun v _ => t - (intOf v).toNat)
    case atStart => exact ⟨0, by omega, rfl, rfl⟩
    case round =>
      obtain ⟨r, hr, rfl, rfl⟩ := hrel
      by_cases hrt : r < t
      · have e2 := Hte.out r hrt
        have cr := Hc.out (cs.length - 1 - r) (by omega)
        rw [e2] at cr
        have hlt' : (r : Int) < cs.length := by omega
        have e3 : ((cs.length : Int) - 1 - r).toNat = cs.length - 1 - r := by omega
        go_wp2
        exact ⟨⟨r + 1, by omega, by go_num, trivial⟩, by simp [intOf]; omega⟩
      · obtain rfl : r = t := by omega
        have hend : r = cs.length ∨ (r < cs.length ∧ cs[cs.length - 1 - r]?.getD 0 ≠ cs[cs.length - 1]?.getD 0) := by
          rcases Htx.out with h | h
          · exact .inl h
          · by_cases h2 : r = cs.length
            · exact .inl h2
            · exact .inr ⟨by omega, h⟩
        rcases hend with hend | ⟨hend, hne⟩
        · have hlt' : ¬ (r : Int) < cs.length := by omega
          clear hend
          go_wp2
          go_meet
          exact ⟨rfl, rfl⟩
        · have cr := Hc.out (cs.length - 1 - r) (by omega)
          have hlt' : (r : Int) < cs.length := by omega
          have e3 : ((cs.length : Int) - 1 - r).toNat = cs.length - 1 - r := by omega
          generalize cs[cs.length - 1 - r]?.getD 0 = x1 at *
          generalize cs[cs.length - 1]?.getD 0 = x2 at *
          go_wp2
          go_meet
          exact ⟨rfl, rfl⟩
  case rest =>
    obtain ⟨rfl, hwc⟩ := hcut
    have hwc2 := hwc.symm
    subst hwc2
    clear hwc
    by_cases hst : st ≤ (t : Int)
    · rw [if_pos hst] at hbad
      go_wp2
      go_ret
      exact ⟨by rw [hbad.out]; rfl, 0, rfl⟩
    · rw [if_neg hst] at hbad
      have hW1 : (0 : Int) < W := by omega
      have hW2 : (W : Int) ≤ 50 := by omega
      go_wp2
      go_region
      have hFx : cs.length - 1 - (cs.length - 1) % W < cs.length := by omega
      have hdm := Nat.div_add_mod (cs.length - 1) W
      have hend : Hd (cs.length - 1 - (cs.length - 1) % W + ((cs.length - 1) % W + 1) = cs.length) := hid (by omega)
      have hQ2 : Hd (wrap64 (((cs.length : Int) - 1) / (W : Int) * (W : Int)) = ((cs.length - 1 - (cs.length - 1) % W : Nat) : Int)) := hid (by rw [hQ.out]; exact w64 _ (by omega) (by omega))
      have cf := Hc.out _ hFx
      clear hQ hdm Hte Htx hml
      go_wp2
      rw [hQ2.out]
      clear hQ2
      generalize cs.length - 1 - (cs.length - 1) % W = F at *
      generalize (cs.length - 1) % W + 1 = D at *
      generalize cs[cs.length - 1]?.getD 0 = x at *
      generalize hfx : cs[F]?.getD 0 = fx at *
      have Hfx := hid hfx
      clear hfx
      go_loopw [7, 8] (fun cv i wr => ∃ k m : Nat, k ≤ D ∧ i = .int .i64 ((F + k : Nat) : Int) ∧ cv = .int .i64 (cntF cs F k : Int) ∧ wr = w.drewN m) (fun _ i _ => F + D - (intOf i).toNat)
      case atStart => exact ⟨0, 1, by omega, rfl, rfl, rfl⟩
      case round =>
        obtain ⟨k, m, hk, rfl, rfl, rfl⟩ := hrel
        have hle := cntF_le cs F k
        have hen := hend.out
        by_cases hkd : k < D
        · have ck := Hc.out (F + k) (by omega)
          have hst2 : Hd (cntF cs F (k + 1) = cntF cs F k + if cs[F + k]?.getD 0 = fx then 1 else 0) := hid (by rw [← Hfx.out]; rfl)
          have d3 : (w.drewN m).cell? ⟨Y, 3, none⟩ = _ := c3
          have df : (w.drewN m).cell? ⟨g, F, none⟩ = _ := cf
          have dk : (w.drewN m).cell? ⟨g, F + k, none⟩ = _ := ck
          generalize hwq : w.drewN m = wq at *
          have Hwq := hid hwq
          clear hwq
          generalize cs[F + k]?.getD 0 = xk at *
          generalize cntF cs F k = ck0 at *
          go_wp2
          go_region
          by_cases hx : xk = fx
          · rw [if_pos hx] at hst2
            go_wp2
            exact ⟨⟨k + 1, m + 1, by omega, by go_num, by rw [hst2.out]; rfl, by rw [← Hwq.out]; rfl⟩, by simp [intOf]; omega⟩
          · rw [if_neg hx] at hst2
            go_wp2
            exact ⟨⟨k + 1, m + 1, by omega, by go_num, by rw [hst2.out]; rfl, by rw [← Hwq.out]; rfl⟩, by simp [intOf]; omega⟩
        · obtain rfl : k = D := by omega
          have d1 : (w.drewN m).cell? ⟨Y, 2, none⟩ = _ := c2
          have d3 : (w.drewN m).cell? ⟨Y, 3, none⟩ = _ := c3
          have df : (w.drewN m).cell? ⟨g, F, none⟩ = _ := cf
          generalize hwq : w.drewN m = wq at *
          have Hwq := hid hwq
          clear hwq hend
          generalize cntF cs F k = ck0 at *
          by_cases hx : x = fx
          · by_cases hk2 : sk ≤ (ck0 : Int)
            · rw [if_pos ⟨hx, hk2⟩] at hbad
              go_wp2
              go_ret
              exact ⟨by rw [hbad.out]; rfl, m, Hwq.out.symm⟩
            · rw [if_neg (fun h => hk2 h.2)] at hbad
              go_wp2
              go_ret
              exact ⟨by rw [hbad.out]; rfl, m, Hwq.out.symm⟩
          · rw [if_neg (fun h => hx h.1)] at hbad
            go_wp2
            go_ret
            exact ⟨by rw [hbad.out]; rfl, m, Hwq.out.symm⟩
end Go.Proofs.YtbifmhbkmnofiaaGreat
namespace Go.Proofs.YtbifmhbkmnofiaaGreat
open Go.RowKit
set_option linter.unusedVariables false
set_option linter.unusedSimpArgs false
section
variable {P : Program} {ops : Array Oper} {Q : Exit → Act → World → Prop} {md : Region.Mode} {S : World → Prop} {z : Nat}
/-- whatever order is picked; behind each operation but number z S holds -/
def wpAnyE (P : Program) (md : Region.Mode) (ops : Array Oper) (Q : Exit → Act → World → Prop) (S : World → Prop) (z : Nat) : Nat → Array Bool → Act → World → Prop
  | 0, listed, a, w => Region.ready md ops listed = [] ∧ Q .normal a w
  | fuel + 1, listed, a, w =>
    (Region.ready md ops listed = [] → Q .normal a w) ∧
    ∀ i ∈ Region.ready md ops listed, wpOp P ops Q i (fun a' w' => (i ≠ z → S w') ∧ wpAnyE P md ops Q S z fuel (listed.setIfInBounds i true) a' w') a w
theorem wpAny_of_E : ∀ (fuel : Nat) (listed : Array Bool) (a : Act) (w : World), wpAnyE P md ops Q S z fuel listed a w → wpAny P md ops Q fuel listed a w
  | 0, _, _, _, h => h
  | fuel + 1, _, _, _, h => ⟨h.1, fun i hi => wpOp_mono (fun a' w' h' => wpAny_of_E fuel _ a' w' h'.2) (h.2 i hi)⟩
/-- number i is taken first: it yields in every world that meets S; number z waits for it -/
theorem wpAnyE_first {i : Nat} {oi oz : Oper} {v : Value} (hi : ops[i]? = some oi) (hz : ops[z]? = some oz) (hzi : ∃ e ∈ oz.after, Region.binds md e = true ∧ e.on = i) (hne : i ≠ z)
    (hsel : ∀ (j : Nat) (o : Oper) cs b, ops[j]? = some o → o.op ≠ .select cs b) (hQ : ∀ c a w, Q (.panic c) (a.put oi.dst v) w → Q (.panic c) a w) :
    ∀ (fuel : Nat) (listed : Array Bool) (a : Act) (w : World),
      (∀ j oj, ops[j]? = some oj → j ≠ i → listed.getD j true = false → (∀ e ∈ oj.after, Region.binds md e = true → e.on ≠ i) → oi.apart ops oj = true) →
      i ∈ Region.ready md ops listed → YieldsIf P ops S oi v a → S w →
      wpAnyE P md ops Q S z fuel (listed.setIfInBounds i true) (a.put oi.dst v) w → wpAnyE P md ops Q S z (fuel + 1) listed a w := by
  intro fuel
  induction fuel with
  | zero =>
    intro listed a w _ hr hy hS H
    refine ⟨fun h => (by rw [h] at hr; cases hr), fun j hj => ?_⟩
    by_cases hji : j = i
    · subst hji; exact hy.wpOp hi hS ⟨fun _ => hS, H⟩
    · exfalso
      have h1 := ready_mono hj hji
      rw [H.1] at h1
      cases h1
  | succ fuel ih =>
    intro listed a w hfree hr hy hS H
    refine ⟨fun h => (by rw [h] at hr; cases hr), fun j hj => ?_⟩
    by_cases hji : j = i
    · subst hji; exact hy.wpOp hi hS ⟨fun _ => hS, H⟩
    · have h1 := H.2 j (ready_mono hj hji)
      obtain ⟨hjun, oj, hoj, hall⟩ := mem_ready.1 hj
      have hnot : ∀ e ∈ oj.after, Region.binds md e = true → e.on ≠ i := fun e he hb heq => by
        have g1 := hall e he hb
        have g0 := (mem_ready.1 hr).1
        rw [heq] at g1
        rcases Nat.lt_or_ge i listed.size with h' | h'
        · simp [h'] at g0 g1; rw [g0] at g1; cases g1
        · simp [Array.getElem?_eq_none h'] at g1
      have hjz : j ≠ z := fun hh => by
        subst hh
        rw [hoj] at hz
        obtain ⟨e, he, hb, hon⟩ := hzi
        have : oj = oz := by simpa using hz
        subst this
        exact hnot e he hb hon
      have h2 := wpOp_putIf hoj (hfree j oj hoj hji hjun hnot) (fun cs b => hsel i oi cs b hi) (fun cs b => hsel j oj cs b hoj) hQ hy h1
      have hfree' : ∀ k ok, ops[k]? = some ok → k ≠ i → (listed.setIfInBounds j true).getD k true = false →
          (∀ e ∈ ok.after, Region.binds md e = true → e.on ≠ i) → oi.apart ops ok = true := fun k ok hk hki hun hno => by
        refine hfree k ok hk hki ?_ hno
        by_cases hjk : j = k
        · subst hjk; exact hjun
        · rw [getD_set_ne true hjk] at hun; exact hun
      refine wpOp_mono (fun a' w' h3 => ⟨fun _ => h3.2.1 hjz, ih (listed.setIfInBounds j true) a' w' hfree' (ready_mono hr (Ne.symm hji)) h3.1 (h3.2.1 hjz) ?_⟩) h2
      rw [Array.setIfInBounds_comm _ _ hji]
      exact h3.2.2
/-- does number z wait for number i? -/
def waitsFor (md : Region.Mode) (ops : Array Oper) (z i : Nat) : Bool := match ops[z]? with
  | some oz => oz.after.any fun e => Region.binds md e && e.on == i
  | none => false
theorem waitsFor_spec {i : Nat} {oz : Oper} (hz : ops[z]? = some oz) (h : waitsFor md ops z i = true) : ∃ e ∈ oz.after, Region.binds md e = true ∧ e.on = i := by
  unfold waitsFor at h
  rw [hz] at h
  simp only [Array.any_eq_true] at h
  obtain ⟨n, hn, h⟩ := h
  simp only [Bool.and_eq_true, beq_iff_eq] at h
  exact ⟨_, Array.getElem_mem hn, h.1, h.2⟩
theorem wpAnyE_take {i : Nat} {oi : Oper} {v : Value} {fuel : Nat} {listed : Array Bool} {a : Act} {w : World} (hi : ops[i]? = some oi) (hw : waitsFor md ops z i = true) (hne : (i == z) = false)
    (hs : Region.noSelect ops = true) (hf : Region.free md ops listed i = true) (hr : (Region.ready md ops listed).contains i = true)
    (hQ : ∀ c a w, Q (.panic c) (a.put oi.dst v) w → Q (.panic c) a w) (hy : YieldsIf P ops S oi v a) (hS : S w)
    (h : wpAnyE P md ops Q S z fuel (listed.setIfInBounds i true) (a.put oi.dst v) w) : wpAnyE P md ops Q S z (fuel + 1) listed a w := by
  have hz : ∃ oz, ops[z]? = some oz := by
    unfold waitsFor at hw
    cases hh : ops[z]? with
    | none => rw [hh] at hw; cases hw
    | some oz => exact ⟨oz, rfl⟩
  obtain ⟨oz, hz⟩ := hz
  exact wpAnyE_first hi hz (waitsFor_spec hz hw) (by simpa using hne) (Region.noSelect_spec hs) hQ fuel listed a w (Region.free_spec hi hf) (by simpa using hr) hy hS h
/-- the one operation that may come up -/
theorem wpAnyE_one {i : Nat} {o : Oper} {fuel : Nat} {listed : Array Bool} {a : Act} {w : World} (hr : Region.ready md ops listed = [i]) (ho : ops[i]? = some o)
    (h : ∀ K' : Act → World → Prop, Hd (∀ a w, (i ≠ z → S w) → wpAnyE P md ops Q S z fuel (listed.setIfInBounds i true) a w → K' a w) → if Region.wanted o (yielded ops a.tmps) = true then Oper.wp P o a w K' Q else K' (a.put o.dst undef) w) : wpAnyE P md ops Q S z (fuel + 1) listed a w := by
  refine ⟨fun h0 => (by rw [hr] at h0; cases h0), fun j hj => ?_⟩
  rw [hr, List.mem_singleton] at hj
  subst hj
  exact wpOp_step ho (fun K' hK => h K' ⟨fun a w hS hW => hK a w ⟨hS, hW⟩⟩)
theorem wpAnyE_done {listed : Array Bool} {a : Act} {w : World} (hr : Region.ready md ops listed = []) (h : Q .normal a w) : ∀ fuel, wpAnyE P md ops Q S z fuel listed a w
  | 0 => ⟨hr, h⟩
  | _ + 1 => ⟨fun _ => h, by rw [hr]; simp⟩
theorem wp_region_E {id : Nat} {a : Act} {w : World} (z : Nat) (hm : P.follows .mixedOrders = true) (hS : S w.drew)
    (h : S w.drew → wpAnyE P .any ops Q S z ops.size (Array.replicate ops.size false) a w.drew) : (Code.region id ops true).wp P Q a w :=
  wp_region_any hm (wpAny_of_E _ _ _ _ (h hS))
end
end Go.Proofs.YtbifmhbkmnofiaaGreat
namespace Go.Proofs.YtbifmhbkmnofiaaGreat
open Go.RowKit
set_option linter.unusedVariables false
set_option linter.unusedSimpArgs false
theorem bsz2 (a : ByteArray) : a.data.toList.length = a.size := by rw [Array.length_toList]; rfl
theorem tl2_loop (a : ByteArray) : ∀ (n i : Nat) (r : List UInt8), n = a.size - i → i ≤ a.size → ByteArray.toList.loop a i r = r.reverse ++ a.data.toList.drop i := by
  intro n
  induction n with
  | zero =>
    intro i r hn hi
    rw [ByteArray.toList.loop.eq_def, if_neg (by omega), List.drop_of_length_le (by rw [bsz2]; omega), List.append_nil]
  | succ n ih =>
    intro i r hn hi
    rw [ByteArray.toList.loop.eq_def, if_pos (by omega), ih (i + 1) _ (by omega) (by omega)]
    have hlt : i < a.data.toList.length := by rw [bsz2]; omega
    rw [List.drop_eq_getElem_cons hlt]
    simp only [List.reverse_cons, List.append_assoc, List.singleton_append]
    congr 2
    have hlt2 : i < a.data.size := by rw [Array.length_toList] at hlt; exact hlt
    show a.data[i]! = _
    rw [getElem!_pos a.data i hlt2]; rfl
theorem tl2_eq (a : ByteArray) : a.toList = a.data.toList := by
  unfold ByteArray.toList
  rw [tl2_loop a _ 0 [] rfl (Nat.zero_le _)]
  simp
theorem tl2_ne {a b : ByteArray} (h : a ≠ b) : (a.toList == b.toList) = false := by
  apply beq_eq_false_iff_ne.2
  intro he
  rw [tl2_eq, tl2_eq] at he
  apply h
  cases a; cases b
  simp at he
  simp [he]
theorem empty_bts {d : ByteArray} (h : d ≠ ⟨#[]⟩) : bts d ≠ [] := by
  intro he
  apply h
  have h1 : (bts d).length = 0 := by rw [he]; rfl
  rw [bts_len] at h1
  cases d with
  | mk a =>
    have h2 : a.size = 0 := h1
    have : a = #[] := Array.eq_empty_of_size_eq_zero h2
    rw [this]
theorem ne_empty {d : ByteArray} (h : d ≠ ⟨#[]⟩) : (d.toList == (⟨#[]⟩ : ByteArray).toList) = false := tl2_ne h
theorem not_empty {d : ByteArray} (h : d ≠ ⟨#[]⟩) : d.toList.isEmpty = false := by
  cases hh : d.toList with
  | nil =>
    exfalso
    have h1 : (d.toList == (⟨#[]⟩ : ByteArray).toList) = true := by
      rw [hh, tl2_eq]; rfl
    rw [ne_empty h] at h1
    cases h1
  | cons a l => rfl
end Go.Proofs.YtbifmhbkmnofiaaGreat
