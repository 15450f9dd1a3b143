import Derived.Test.YtbifmhbkmnofiaaGreatMv
import Derived.Test.YtbifmhbkmnofiaaGreatMl
import Derived.ArgAppend
namespace Go.Proofs.YtbifmhbkmnofiaaGreat
open Go.RowKit
set_option linter.unusedVariables false
set_option linter.unusedSimpArgs false
/-- the document's source, as it stands beside the program's -/
structure RfAt (w : World) (Y : Nat) (f : Fnt) : Prop where
  at_ : RsAt w Y (refOf f)
  ok : f.g.ok
  B : f.g.B
theorem RfAt.lt {w : World} {Y : Nat} {f : Fnt} (h : RfAt w Y f) : Y < w.heap.size := h.at_.lt
theorem RfAt.other {w w' : World} {Y : Nat} {f : Fnt} (h : RfAt w Y f) (he : w'.heap[Y]? = w.heap[Y]?) : RfAt w' Y f := ⟨h.at_.other he, h.ok, h.B⟩
theorem readG_B {g : MG} (h : g.B) (xs : List Int) : (readG g xs).B := by
  unfold readG
  split
  · exact h
  · exact stirG_B h xs
theorem behindM_B {g : MG} (h : g.B) (n : Nat) (xs : List Int) : (behindM g n xs).B := stirG_B (stepN_B (readG_B h xs) _) xs
theorem B_m {g : MG} (h : g.B) : (Gen.m g).B := h
theorem B_s (g : SG) : (Gen.s g).B := trivial
theorem rnew_any (k : Int) (e n m : ByteArray) (w : World) (hk : k = 1 ∨ k = 2) (he : may e = true) (hn : n.size ≤ 64) (hm : m.size ≤ 64) :
    Calls Tryz.prog 30 #[.int .i64 k, .string e, .string n, .string m] w fun en w' => ∃ Y, en = .returned (.tuple #[.pointer (some ⟨Y, 0, none⟩), .int .i64 0]) ∧ w.heap.size ≤ Y ∧ RfAt w' Y ⟨seedOf k (bts e ++ bts n ++ bts m), 1⟩ ∧ Below w.heap.size w w' := by
  rcases hk with rfl | rfl
  · refine (rnew_m e n m w he hn hm).mono ?_
    rintro en w' ⟨Y, rfl, hY, hS, hB⟩
    have hs : seedOf 1 (bts e ++ bts n ++ bts m) = .m (seedG (bts e ++ bts n ++ bts m)) := by unfold seedOf; rw [if_pos rfl]
    refine ⟨Y, rfl, hY, ?_, hB⟩
    rw [hs]
    exact ⟨by rw [refOf_m]; exact hS, ok_m (seedG_ok _), B_m (seedG_B _)⟩
  · refine (rnew_s e n m w he hn hm).mono ?_
    rintro en w' ⟨Y, rfl, hY, hS, hB⟩
    have hs : seedOf 2 (bts e ++ bts n ++ bts m) = .s (beginS (bts e ++ bts n ++ bts m)) := by unfold seedOf; rw [if_neg (by decide)]
    refine ⟨Y, rfl, hY, ?_, hB⟩
    rw [hs]
    exact ⟨by rw [refOf_s]; exact hS, ok_s (beginS_ok _), B_s _⟩
theorem rreseed_any (f : Fnt) (e x : ByteArray) (Y : Nat) (w : World) (hF : RfAt w Y f) (he : may e = true) (hx : x.size ≤ 64) :
    Calls Tryz.prog 32 #[.pointer (some ⟨Y, 0, none⟩), .string e, .string x] w fun en w' => en = .returned (.int .i64 0) ∧ RfAt w' Y ⟨reseedOf f.g (bts e ++ bts x), 1⟩ ∧ Ex Y w w' := by
  obtain ⟨g, r⟩ := f
  obtain ⟨hS, hok, hB⟩ := hF
  cases g with
  | m g =>
    rw [refOf_m] at hS
    refine (rreseed_m g r e x Y w hok hB hS he hx).mono ?_
    rintro en w' ⟨rfl, hS', hE⟩
    exact ⟨rfl, ⟨by rw [show reseedOf (⟨.m g, r⟩ : Fnt).g (bts e ++ bts x) = .m (stirG g (bts e ++ bts x)) from rfl, refOf_m]; exact hS', ok_m (stirG_ok hok _), B_m (stirG_B hB _)⟩, hE⟩
  | s g =>
    rw [refOf_s] at hS
    refine (rreseed_s g r e x Y w hok hS he hx).mono ?_
    rintro en w' ⟨rfl, hS', hE⟩
    exact ⟨rfl, ⟨by rw [show reseedOf (⟨.s g, r⟩ : Fnt).g (bts e ++ bts x) = .s (reseedS g (bts e ++ bts x)) from rfl, refOf_s]; exact hS', ok_s (reseedS_ok _ _), B_s _⟩, hE⟩
theorem rread_any (f : Fnt) (n : Nat) (x : ByteArray) (Y : Nat) (w : World) (hF : RfAt w Y f) (hx : x.size ≤ 64) (hn : n ≤ 200) (hr : f.r ≤ 8) :
    Calls Tryz.prog 34 #[.pointer (some ⟨Y, 0, none⟩), .int .i64 n, .string x] w fun en w' => en = .returned (.tuple #[.string (toS (bytesF f.g n (bts x))), .int .i64 0]) ∧ RfAt w' Y ⟨behindF f.g f.r n (bts x), f.r + 1⟩ ∧ Ex Y w w' := by
  obtain ⟨g, r⟩ := f
  obtain ⟨hS, hok, hB⟩ := hF
  cases g with
  | m g =>
    rw [refOf_m] at hS
    refine (rread_m g r n x Y w hok hB hS hx hn (by omega) (by dsimp only at hr; omega)).mono ?_
    rintro en w' ⟨rfl, hS', hE⟩
    exact ⟨rfl, ⟨by rw [show behindF (⟨.m g, r⟩ : Fnt).g (⟨.m g, r⟩ : Fnt).r n (bts x) = .m (behindM g n (bts x)) from rfl, refOf_m]; exact hS', ok_m (behindM_ok hok _ _), B_m (behindM_B hB _ _)⟩, hE⟩
  | s g =>
    rw [refOf_s] at hS
    refine (rread_s g r n x Y w hok hS hx hn (by omega) (by dsimp only at hr; omega)).mono ?_
    rintro en w' ⟨rfl, hS', hE⟩
    exact ⟨rfl, ⟨by rw [show behindF (⟨.s g, r⟩ : Fnt).g (⟨.s g, r⟩ : Fnt).r n (bts x) = .s (behindS g (bts x) r) from rfl, refOf_s]; exact hS', ok_s (behindS_ok hok _ _), B_s _⟩, hE⟩
theorem rread_over' (f : Fnt) (n : Nat) (x : ByteArray) (Y : Nat) (w : World) (hF : RfAt w Y f) (hx : x.size ≤ 64) (hn : n ≤ 200) (hr : 8 < f.r) :
    Calls Tryz.prog 34 #[.pointer (some ⟨Y, 0, none⟩), .int .i64 n, .string x] w fun en w' => en = .returned (.tuple #[.string ⟨#[]⟩, .int .i64 3]) ∧ w' = w := by
  refine rread_over (refOf f) n x Y w hF.at_ hx hn ?_
  obtain ⟨g, r⟩ := f
  cases g with
  | m g => rw [refOf_m]; dsimp only at hr ⊢; omega
  | s g => rw [refOf_s]; dsimp only at hr ⊢; omega
end Go.Proofs.YtbifmhbkmnofiaaGreat
namespace Go.Proofs.YtbifmhbkmnofiaaGreat
open Go.RowKit
set_option linter.unusedVariables false
set_option linter.unusedSimpArgs false
set_option maxHeartbeats 400000 in
theorem num_any (n : Int) (w : World) : Calls Tryz.prog 18 #[.int .i64 n] w fun e w' => e = .returned (.int .i64 n) ∧ w' = w := by
  go_enter Tryz.func18, Tryz.ntmps18
  go_wp2
  go_ret
  exact ⟨rfl, rfl⟩
set_option maxHeartbeats 400000 in
theorem lpick_any (c n : Int) (w : World) (hc : -9223372036854775808 ≤ c) (hc' : c ≤ 9223372036854775807) (hn : 0 < n) (hn' : n ≤ 9223372036854775807) :
    Calls Tryz.prog 22 #[.int .i64 c, .int .i64 n] w fun e w' => e = .returned (.int .i64 (pickI c n)) ∧ w' = w := by
  unfold pickI
  by_cases h : c < 0
  · rw [if_pos h]
    have h1 : (0 : Int) ≤ -(c + 1) := by omega
    go_enter Tryz.func22, Tryz.ntmps22
    go_wp2
    go_ret
    exact ⟨congrArg (fun z => Ending.returned (Value.int .i64 z)) (by rw [← Int.neg_tmod, Int.tmod_eq_emod_of_nonneg h1]), rfl⟩
  · rw [if_neg h]
    have h1 : (0 : Int) ≤ c := by omega
    go_enter Tryz.func22, Tryz.ntmps22
    go_wp2
    go_ret
    exact ⟨rfl, rfl⟩
/-- what stands at a place of a list that came out -/
def dgt (m : Int) (i : Nat) : Int := 1 + (m / 250 ^ (i % 3)) % 250
theorem dgt_bd (m : Int) (i : Nat) : 1 ≤ dgt m i ∧ dgt m i ≤ 250 := by unfold dgt; omega
theorem div250 (n : Int) (k : Nat) : n / 250 ^ k / 250 = n / 250 ^ (k + 1) := by
  rw [Int.pow_succ, Int.ediv_ediv_of_nonneg (Int.pow_nonneg (by decide))]
set_option maxHeartbeats 400000 in
theorem digit_any (m : Int) (i : Nat) (w : World) (hm : 0 ≤ m) (hm' : m ≤ 9223372036854775807) (hi : i ≤ 9223372036854775807) :
    Calls Tryz.prog 15 #[.int .i64 m, .int .i64 i] w fun e w' => e = .returned (.int .u8 (dgt m i)) ∧ w' = w := by
  go_enter Tryz.func15, Tryz.ntmps15
  go_wp2
  go_loop [0, 5] (fun a k => ∃ j : Nat, j ≤ i % 3 ∧ k = .int .i64 (((i % 3 - j : Nat)) : Int) ∧ a = .int .i64 (m / 250 ^ j)) (fun _ k => (intOf k).toNat)
  case atStart => exact ⟨0, by omega, by go_num, by simp⟩
  case round =>
    obtain ⟨j, hj, rfl, rfl⟩ := hrel
    have hmod : i % 3 < 3 := Nat.mod_lt _ (by decide)
    have q0 : 0 ≤ m / 250 ^ j := Int.ediv_nonneg hm (Int.pow_nonneg (by decide))
    have q1 : m / 250 ^ j ≤ 9223372036854775807 := Int.le_trans (Int.ediv_le_self _ hm) hm'
    by_cases hlt : j < i % 3
    · have hds := hid (div250 m j)
      have hp : (0 : Int) < (((i % 3 - j : Nat)) : Int) := by omega
      have hle : (((i % 3 - j : Nat)) : Int) ≤ 3 := by omega
      have hsub : Hd ((((i % 3 - j : Nat)) : Int) - 1 = (((i % 3 - (j + 1) : Nat)) : Int)) := hid (by omega)
      generalize m / 250 ^ j = q at *
      generalize (((i % 3 - j : Nat)) : Int) = r at *
      go_wp2
      go_round
      case rel => exact ⟨j + 1, by omega, by rw [← hsub.out], by rw [← hds.out]⟩
      case measure => rw [hsub.out]; simp [intOf]; have := hsub.out; omega
    · have hz : Hd ((((i % 3 - j : Nat)) : Int) = 0) := hid (by omega)
      rw [hz.out]
      have hD : Hd (dgt m i = 1 + (m / 250 ^ j) % 250) := hid (by unfold dgt; rw [show i % 3 = j by omega])
      generalize m / 250 ^ j = q at *
      go_wp2
      go_ret
      exact ⟨by rw [hD.out]; rfl, rfl⟩
end Go.Proofs.YtbifmhbkmnofiaaGreat
namespace Go.Proofs.YtbifmhbkmnofiaaGreat
open Go.RowKit
set_option linter.unusedVariables false
set_option linter.unusedSimpArgs false
/-- a list of bytes, each place a function of its number -/
def FL (w : World) (v : Value) (n : Nat) (f : Nat → Int) : Prop := ∃ a cap, v = .slice a n cap ∧ (0 < n → ∃ db off, a = some ⟨db, off, none⟩ ∧ ∀ j, j < n → w.cell? ⟨db, off + j, none⟩ = some (.int .u8 (f j)))
/-- a list that came out: the value, its mark, its length -/
structure Came where
  v : Value
  m : Int
  n : Nat
structure Lent where
  v : Value
  n : Nat
/-- what 'looks' finds -/
structure Looked (w : World) (Wb : Nat) (L : List Came) (T : List Lent) : Prop where
  lists : ∃ v, w.cell? ⟨Wb, 4, none⟩ = some v ∧ SlV w v (L.map (·.v))
  marks : ∃ v, w.cell? ⟨Wb, 5, none⟩ = some v ∧ SlV w v (L.map fun x => .int .i64 x.m)
  lent : ∃ v, w.cell? ⟨Wb, 6, none⟩ = some v ∧ SlV w v (T.map (·.v))
  came : ∀ x ∈ L, FL w x.v x.n (dgt x.m) ∧ 0 ≤ x.m ∧ x.m ≤ 9223372036854775807 ∧ x.n ≤ 9223372036854775807
  wrote : ∀ x ∈ T, FL w x.v x.n (fun _ => 251) ∧ x.n ≤ 9223372036854775807
  sizeL : L.length ≤ 9223372036854775807
  sizeT : T.length ≤ 9223372036854775807
set_option maxRecDepth 20000 in
set_option maxHeartbeats 1000000 in
theorem looks_any (Wb : Nat) (L : List Came) (T : List Lent) (w : World) (h : Looked w Wb L T) :
    Calls Tryz.prog 10 #[.pointer (some ⟨Wb, 0, none⟩)] w fun e w' => e = .returned (.bool true) ∧ ∃ m, w' = w.drewN m := by
  obtain ⟨⟨vl, cl, hl⟩, ⟨vm, cm, hm⟩, ⟨vt, ct, ht⟩, hcame, hwrote, hsL, hsT⟩ := h
  obtain ⟨al, capl, rfl, hl⟩ := hl
  obtain ⟨am, capm, rfl, hm⟩ := hm
  obtain ⟨at_, capt, rfl, ht⟩ := ht
  rw [List.length_map] at hl hm ht cl cm ct
  have Hl := hid hl
  have Hm := hid hm
  have Ht := hid ht
  have Hcame := hid hcame
  have Hwrote := hid hwrote
  clear hl hm ht hcame hwrote
  go_enter Tryz.func10, Tryz.ntmps10
  go_wp2
  go_loopw [3] (fun i wr => ∃ k : Nat, k ≤ L.length ∧ i = .int .i64 k ∧ ∃ m, wr = w.drewN m) (fun i _ => L.length - (intOf i).toNat)
  case atStart => exact ⟨0, by omega, rfl, 0, rfl⟩
  case round =>
    obtain ⟨k, hk, rfl, m0, rfl⟩ := hrel
    have cl' : (w.drewN m0).cell? ⟨Wb, 4, none⟩ = _ := cl
    by_cases hlt : k < L.length
    · obtain ⟨db, off, rfl, hcl⟩ := Hl.out (by omega)
      obtain ⟨dm, om, rfl, hcm⟩ := Hm.out (by omega)
      obtain ⟨⟨a, cap, hv, hfl⟩, hm0, hm1, hn1⟩ := Hcame.out L[k] (List.getElem_mem hlt)
      have e1 := hcl k L[k].v (by simp [List.getElem?_eq_getElem hlt])
      have e2 := hcm k (.int .i64 L[k].m) (by simp [List.getElem?_eq_getElem hlt])
      rw [hv] at e1
      have Hfl := hid hfl
      clear hfl hcl hcm hv
      generalize L[k].n = n at *
      generalize L[k].m = mk at *
      have hlt' : (k : Int) < L.length := by omega
      go_wp2
      go_loopw [4] (fun i wr => ∃ j : Nat, j ≤ n ∧ i = .int .i64 j ∧ ∃ m, wr = w.drewN m) (fun i _ => n - (intOf i).toNat)
      case atStart => exact ⟨0, by omega, rfl, m0, rfl⟩
      case round =>
        obtain ⟨j, hj, rfl, m1, rfl⟩ := hrel
        by_cases hjl : j < n
        · obtain ⟨dv, ov, rfl, hcv⟩ := Hfl.out (by omega)
          have e3 := hcv j hjl
          have db0 := dgt_bd mk j
          have hjl' : (j : Int) < n := by omega
          go_wp2
          have f1 : (w.drewN m1).cell? ⟨Wb, 4, none⟩ = _ := cl
          have f2 : (w.drewN m1).cell? ⟨Wb, 5, none⟩ = _ := cm
          have f3 : (w.drewN m1).cell? ⟨db, off + k, none⟩ = _ := e1
          have f4 : (w.drewN m1).cell? ⟨dm, om + k, none⟩ = _ := e2
          have f5 : (w.drewN m1).cell? ⟨dv, ov + j, none⟩ = _ := e3
          have Hcl := hid cl
          have Hcm := hid cm
          clear cl cm e1 e2 e3 hcv cl'
          generalize hwq : w.drewN m1 = wq at *
          have Hwq := hid hwq
          clear hwq
          have hjn : j ≤ 9223372036854775807 := by omega
          go_quiet ((go_at_call 15; exact Calls.quiet_of_same (digit_any mk j _ hm0 hm1 hjn)))
          have hne : (dgt mk j != dgt mk j) = false := by simp
          go_wp2
          exact ⟨⟨j + 1, by omega, by go_num, m1 + nq, by rw [← Hwq.out, World.drewN_drewN]⟩, by simp [intOf]; omega⟩
        · go_wp2
          exact ⟨⟨k + 1, by omega, by go_num, m1, rfl⟩, by simp [intOf]; omega⟩
    · go_wp2
      go_loopw [5] (fun i wr => ∃ k : Nat, k ≤ T.length ∧ i = .int .i64 k ∧ wr = w.drewN m0) (fun i _ => T.length - (intOf i).toNat)
      case atStart => exact ⟨0, by omega, rfl, rfl⟩
      case round =>
        obtain ⟨q, hq, rfl, rfl⟩ := hrel
        by_cases hqt : q < T.length
        · obtain ⟨db, off, rfl, hct⟩ := Ht.out (by omega)
          obtain ⟨⟨a, cap, hv, hfl⟩, hn1⟩ := Hwrote.out T[q] (List.getElem_mem hqt)
          have e1 := hct q T[q].v (by simp [List.getElem?_eq_getElem hqt])
          rw [hv] at e1
          have Hfl := hid hfl
          clear hfl hct hv
          generalize T[q].n = n at *
          have hqt' : (q : Int) < T.length := by omega
          go_wp2
          go_loopw [6] (fun i wr => ∃ j : Nat, j ≤ n ∧ i = .int .i64 j ∧ wr = w.drewN m0) (fun i _ => n - (intOf i).toNat)
          case atStart => exact ⟨0, by omega, rfl, rfl⟩
          case round =>
            obtain ⟨j, hj, rfl, rfl⟩ := hrel
            by_cases hjl : j < n
            · obtain ⟨dv, ov, rfl, hcv⟩ := Hfl.out (by omega)
              have e3 := hcv j hjl
              have hjl' : (j : Int) < n := by omega
              go_wp2
              exact ⟨⟨j + 1, by omega, by go_num, by first | rfl | trivial⟩, by simp [intOf]; omega⟩
            · go_wp2
              exact ⟨⟨q + 1, by omega, by go_num, by first | rfl | trivial⟩, by simp [intOf]; omega⟩
        · go_wp2
          go_ret
          exact ⟨rfl, m0, rfl⟩
end Go.Proofs.YtbifmhbkmnofiaaGreat
namespace Go.Proofs.YtbifmhbkmnofiaaGreat
open Go.RowKit
set_option linter.unusedVariables false
set_option linter.unusedSimpArgs false
/-- a row of bytes that may be written up to its end: block, bytes, capacity -/
structure Wr (w : World) (g : Nat) (xs : List Int) (cap : Nat) : Prop where
  le : xs.length ≤ cap
  room : ∀ j, j < cap → (w.cell? ⟨g, j, none⟩).isSome = true ∧ w.frozen? ⟨g, j, none⟩ = false
  cells : ∀ j, j < xs.length → w.cell? ⟨g, j, none⟩ = some (.int .u8 (xs[j]?.getD 0))
theorem Wr.other {w w' : World} {g cap : Nat} {xs : List Int} (h : Wr w g xs cap) (he : w'.heap[g]? = w.heap[g]?) : Wr w' g xs cap := by
  have hc : ∀ j, w'.cell? ⟨g, j, none⟩ = w.cell? ⟨g, j, none⟩ := fun j => by unfold World.cell?; rw [he]
  have hf : ∀ j, w'.frozen? ⟨g, j, none⟩ = w.frozen? ⟨g, j, none⟩ := fun j => by unfold World.frozen?; rw [he]
  exact ⟨h.le, fun j hj => by rw [hc, hf]; exact h.room j hj, fun j hj => by rw [hc]; exact h.cells j hj⟩
theorem Wr.set {w : World} {g cap : Nat} {xs : List Int} (h : Wr w g xs cap) (j : Nat) (hj : j < xs.length) (x : Int) : Wr (w.setCell ⟨g, j, none⟩ (.int .u8 x)) g (xs.set j x) cap := by
  have hj2 : j < cap := Nat.lt_of_lt_of_le hj h.le
  refine ⟨by rw [List.length_set]; exact h.le, fun i hi => ?_, fun i hi => ?_⟩
  · obtain ⟨h1, h2⟩ := h.room i hi
    refine ⟨?_, by rw [World.frozen?_setCell]; exact h2⟩
    by_cases e : i = j
    · subst e
      obtain ⟨u, hu⟩ := Option.isSome_iff_exists.1 h1
      rw [World.cell?_setCell_same _ _ _ hu]; rfl
    · rw [World.cell?_setCell_other _ _ _ _ (fun e' => e (congrArg Addr.off e').symm)]; exact h1
  · rw [List.length_set] at hi
    by_cases e : i = j
    · subst e
      rw [World.cell?_setCell_same _ _ _ (h.cells i hi), getD_set_same _ _ _ hi]
    · rw [World.cell?_setCell_other _ _ _ _ (fun e' => e (congrArg Addr.off e').symm), h.cells i hi, getD_set _ _ _ _ e]
/-- one more byte, where there is room -/
theorem Wr.push {w : World} {g cap : Nat} {xs : List Int} (h : Wr w g xs cap) (x : Int) (hr : xs.length + 1 ≤ cap) : Wr (w.setCells g xs.length [.int .u8 x]) g (xs ++ [x]) cap := by
  have hw : w.setCells g xs.length [.int .u8 x] = w.setCell ⟨g, xs.length, none⟩ (.int .u8 x) := rfl
  rw [hw]
  obtain ⟨h1, h2⟩ := h.room xs.length (by omega)
  obtain ⟨u, hu⟩ := Option.isSome_iff_exists.1 h1
  refine ⟨by simp; omega, fun i hi => ?_, fun i hi => ?_⟩
  · obtain ⟨h1, h2⟩ := h.room i hi
    refine ⟨?_, by rw [World.frozen?_setCell]; exact h2⟩
    by_cases e : i = xs.length
    · subst e
      rw [World.cell?_setCell_same _ _ _ hu]; rfl
    · rw [World.cell?_setCell_other _ _ _ _ (fun e' => e (congrArg Addr.off e').symm)]; exact h1
  · rw [List.length_append] at hi
    by_cases e : i = xs.length
    · subst e
      rw [World.cell?_setCell_same _ _ _ hu]; simp
    · have hi2 : i < xs.length := by simp at hi; omega
      rw [World.cell?_setCell_other _ _ _ _ (fun e' => e (congrArg Addr.off e').symm), h.cells i hi2, List.getElem?_append_left hi2]
/-- a row that a growing append made -/
theorem Wr.of_owns {w : World} {N n : Nat} {v : Value} {xs : List Int} (h : w.ownsRow N 5 1 v n (xs.map (Value.int .u8))) (hp : 0 < n) : ∃ g cap, v = .slice (some ⟨g, 0, none⟩) n cap ∧ N ≤ g ∧ n ≤ cap ∧ cap ≤ 9223372036854775807 ∧ Wr w g xs cap := by
  have hl : xs.length = n := by have := h.1; simpa using this
  rcases h.2 with ⟨rfl, h0⟩ | ⟨g, cap, cur, rfl, hN, hgg, hle, hm, hsz, htake⟩
  · omega
  · refine ⟨g, cap, rfl, hN, hle, hm, ⟨by omega, fun j hj => ⟨?_, ?_⟩, fun j hj => ?_⟩⟩
    · rw [cell_of_row _ _ _ _ _ _ hgg, Array.getElem?_eq_getElem (by omega)]; rfl
    · simp [World.frozen?, hgg]
    · have := World.ownsRow.cells h (g := g) rfl j (.int .u8 xs[j]) (by simp [List.getElem?_eq_getElem hj])
      rw [Addr.add_mid, Nat.zero_add] at this
      rw [this, List.getElem?_eq_getElem hj]; rfl
theorem bytesW_wr (w : World) (s : ByteArray) : Wr (Lib.bytesWorld w 5 s) w.heap.size (bts s) (grownCap w s.size 0 5) := by
  have hge : s.size ≤ grownCap w s.size 0 5 := grownCap_ge _ _ _ _
  have hb := Lib.bytesWorld_at_new w 5 s
  have hsz : (Lib.bytesCells w 5 s).size = grownCap w s.size 0 5 := by
    have : s.data.size = s.size := rfl
    simp [Lib.bytesCells, this]; omega
  refine ⟨by rw [bts_len]; exact hge, fun j hj => ⟨?_, ?_⟩, fun j hj => ?_⟩
  · rw [cell_of_row _ _ _ _ _ _ hb, Array.getElem?_eq_getElem (by omega)]; rfl
  · simp [World.frozen?, hb]; omega
  · exact (bytesW_br w 5 s j hj).1
theorem wpList_bytes3 {ops : Array Oper} {rest : List Oper} {o : Oper} {a : Act} {w : World} {Q : Exit → Act → World → Prop} (hgd : o.guard = none) (x : Operand) (ho : o.op = .convert 9 41 x) (s : ByteArray) (hx : a.eval x = .string s)
    (h : ∀ w' cap, Below w.heap.size w w' → w'.heap.size = w.heap.size + 1 → Hd (Wr w' w.heap.size (bts s) cap) → wpList Tryz.prog ops Q rest (a.put o.dst (.slice (some ⟨w.heap.size, 0, none⟩) s.size cap)) w') : wpList Tryz.prog ops Q (o :: rest) a w :=
  wpList_plain hgd fun _ hK => by
    unfold Oper.wp execOp
    simp only [ho, hx, Sem.run_bind, Lib.run_convert_string_bytes w 9 41 5 s Tryz.underlying9 Tryz.underlying41 Tryz.underlying5, Result.andThen_ok, Sem.run_pure]
    exact hK _ _ (h _ _ (bytesW_below w 5 s) (Lib.bytesWorld_size w 5 s) ⟨bytesW_wr w s⟩)
def marks8 (k : Nat) : List Int := List.replicate k 252
theorem marks8_succ (k : Nat) : marks8 (k + 1) = marks8 k ++ [252] := List.replicate_succ'
set_option maxRecDepth 20000 in
set_option maxHeartbeats 1000000 in
theorem lend_any (s : ByteArray) (w : World) (hs : s.size ≤ 140737488351232) :
    Calls Tryz.prog 25 #[.string s] w fun e w' => ∃ g cap, e = .returned (.slice (some ⟨g, 0, none⟩) (s.size + 8) cap) ∧ w.heap.size ≤ g ∧ Wr w' g (bts s ++ marks8 8) cap ∧ Below w.heap.size w w' := by
  obtain ⟨i0, hi, hz0, hz1, hz2⟩ := info_parts Tryz.infoB
  have hbl := bts_len s
  go_enter Tryz.func25, Tryz.ntmps25
  go_wp2_with (refine wpList_bytes3 rfl _ rfl s rfl ?_; intro w1 cap hB1 hz1' hwr1)
  go_loopw [3, 4] (fun v i wr => ∃ (k g cap : Nat), k ≤ 8 ∧ i = .int .i64 k ∧ v = .slice (some ⟨g, 0, none⟩) (s.size + k) cap ∧ w.heap.size ≤ g ∧ g < wr.heap.size ∧ Wr wr g (bts s ++ marks8 k) cap ∧ Below w.heap.size w wr) (fun _ i _ => 8 - (intOf i).toNat)
  case atStart => exact ⟨0, w.heap.size, cap, by omega, rfl, rfl, Nat.le_refl _, by omega, by simpa [marks8] using hwr1.out, hB1⟩
  case round =>
    clear hwr1 hB1 hz1'
    obtain ⟨k, g, cap, hk, rfl, rfl, hg, hgl, hwr, hB⟩ := hrel
    have hxl : (bts s ++ marks8 k).length = s.size + k := by simp [marks8, hbl]
    by_cases hlt : k < 8
    · have hms := hid (show bts s ++ marks8 (k + 1) = (bts s ++ marks8 k) ++ [252] from by rw [marks8_succ, List.append_assoc])
      generalize bts s ++ marks8 k = X at *
      have hB2 : Below wr.heap.size wr (wr.alloc (.cells #[Value.int .u8 252] 5)) := (Below.refl _ _).alloc (Nat.le_refl _) _
      have hwr2 := hid (hwr.other (hB2.block g hgl))
      have hC2 := hid (hB.trans (hB2.mono hB.size))
      have hcn := hid (cell_one_new wr (.int .u8 252) 5)
      have hz2' := al_size wr (.cells #[Value.int .u8 252] 5)
      have hzB := hB.size
      have holds : Hd (∀ j u, (X.map (Value.int .u8))[j]? = some u → (wr.alloc (.cells #[Value.int .u8 252] 5)).cell? ⟨g, 0 + j, none⟩ = some u) := hid fun j u hu => by
        have hj : j < X.length := by simpa using (List.getElem?_eq_some_iff.1 hu).1
        rw [Nat.zero_add, hwr2.out.cells j hj, ← hu]
        simp [List.getElem?_eq_getElem hj]
      have hspare : Hd (s.size + k + 1 ≤ cap → ∀ j, j < [Value.int .u8 252].length → ((wr.alloc (.cells #[Value.int .u8 252] 5)).cell? ⟨g, 0 + (s.size + k) * 1 + j, none⟩).isSome = true ∧ (wr.alloc (.cells #[Value.int .u8 252] 5)).frozen? ⟨g, 0 + (s.size + k) * 1 + j, none⟩ = false) := hid fun hr j hj => by
        have hj0 : j = 0 := by simpa using hj
        subst hj0
        have := hwr2.out.room (s.size + k) (by omega)
        simpa using this
      have hlen : Hd ((X.map (Value.int .u8)).length = (s.size + k) * 1) := hid (by simp [hxl])
      clear hwr hB
      go_wp2_with (at_builtin; refine wpList_append_arg _ rfl _ _ 41 rfl 5 i0 (.int .u8 0) 1 1 Tryz.underlying41 hi hz0 hz1 hz2 rfl (by decide) g 0 (s.size + k) cap (X.map (Value.int .u8)) rfl hlen.out holds.out ⟨wr.heap.size, 0, none⟩ 1 1 [.int .u8 252] rfl rfl hcn.out (fun u hu => by simp at hu; subst hu; rfl) hspare.out (by unfold maxLen; omega) (by omega) ?_ ?_)
      · intro hr
        have hpush := hwr2.out.push 252 (by omega)
        rw [hxl] at hpush
        have HP := hid hpush
        have HC := hid (hC2.out.trans ((Ex.refl g _).setCells (s.size + k) [.int .u8 252] |>.below hg (by omega)))
        clear hpush holds hspare hcn hlen hwr2 hC2
        have hgl2 : g < ((wr.alloc (.cells #[Value.int .u8 252] 5)).setCells g (s.size + k) [.int .u8 252]).heap.size := by rw [(setCells_rest g [.int .u8 252] (s.size + k) _).2.2.2]; omega
        generalize ((wr.alloc (.cells #[Value.int .u8 252] 5)).setCells g (s.size + k) [.int .u8 252]) = w5 at *
        go_wp2
        exact ⟨⟨k + 1, g, cap, by omega, by go_num, by first | rfl | (congr 1), hg, hgl2, by rw [hms.out]; exact HP.out, HC.out⟩, by simp [intOf]; omega⟩
      · intro hr v' w' hown hgr
        have hown2 : w'.ownsRow (wr.heap.size + 1) 5 1 v' (s.size + k + 1) ((X ++ [252]).map (Value.int .u8)) := by rw [List.map_append]; exact hown
        obtain ⟨g', cap', rfl, hg', hle', hm', hwr'⟩ := Wr.of_owns hown2 (by omega)
        have hlt' : g' < w'.heap.size := by
          obtain ⟨u, hu⟩ := Option.isSome_iff_exists.1 (hwr'.room 0 (by omega)).1
          exact World.block_lt_of_cell? w' _ hu
        have HC := hid (hC2.out.grown hgr hC2.out.size (fun j hj => by cases hj))
        have HW := hid hwr'
        clear hown hown2 hgr hwr' holds hspare hcn hlen hwr2 hC2
        go_wp2
        exact ⟨⟨k + 1, g', cap', by omega, by go_num, by first | rfl | (congr 1), by omega, hlt', by rw [hms.out]; exact HW.out, HC.out⟩, by simp [intOf]; omega⟩
    · obtain rfl : k = 8 := by omega
      go_wp2
      go_ret
      exact ⟨g, cap, rfl, hg, hwr, hB⟩
end Go.Proofs.YtbifmhbkmnofiaaGreat
