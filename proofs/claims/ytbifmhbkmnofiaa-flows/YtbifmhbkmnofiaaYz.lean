import Derived.Test.YtbifmhbkmnofiaaXz
import Derived.Deep.DeepCutAuto
import Derived.Deep.CutBlock
namespace Go.Proofs.Ytbifmhbkmnofiaa
open Go.RowKit
set_option linter.unusedVariables false
set_option linter.unusedSimpArgs false
def thirty : List Int := [48, 49, 50, 51, 52, 53, 54, 55, 56, 57, 97, 98, 99, 100, 101, 102, 48, 49, 50, 51, 52, 53, 54, 55, 56, 57, 97, 98, 99, 100, 101, 102]
theorem take_thirty : ∃ y, takeW 3 5 4 W0 thirty 0 = (y, none) := ⟨_, rfl⟩
theorem fed_thirty : ∃ y, fedG ⟨3, 5, 4, W0, false⟩ thirty = (32, 0, ⟨3, 5, 4, y, false⟩) := by
  obtain ⟨y, h⟩ := take_thirty
  exact ⟨y, by unfold fedG; dsimp only; rw [h]; rfl⟩
set_option maxRecDepth 20000 in
set_option maxHeartbeats 2000000 in
theorem flowed_any (w : World) : Calls Try.prog 30 #[] w fun e w' => e = .returned (.bool true) ∧ Below w.heap.size w w' := by
  go_enter Try.func30, Try.ntmps30
  go_wp2_with fail
  refine (guarded_any _).mono ?_
  rintro e w1 ⟨rfl, hB1⟩
  have HB1 := hid hB1
  clear hB1
  go_wp2_with fail
  refine (open_yes 1 3 5 4 ⟨#[]⟩ w.heap.size _ (.inl rfl) (by decide) (by decide) HB1.out.size).mono ?_
  rintro e w2 ⟨A, rfl, hA, hW2, hB2⟩
  have HB2 := hid (HB1.out.trans (hB2.mono HB1.out.size))
  have HW2 := hid hW2
  have hA2 : w.heap.size ≤ A := Nat.le_trans HB1.out.size hA
  clear hB2 hW2 HB1
  go_wp2_with fail
  refine (wdraw_little 5 ⟨#[]⟩ w.heap.size A [A] _ w2 HW2.out rfl (by decide) (by decide) rfl (by decide)).mono ?_
  rintro e w3 ⟨rfl, hw⟩
  have hw3 := hw.symm
  subst hw3
  clear hw
  have kc := fun (w : World) (C : Array Value) (n c : Nat) => Lib.run_convert_bytes_const (P := Try.prog) w 35 5 C n c Try.underlying35 Try.underlying5
  have HBy : Hd (Byt (w2.alloc (.cells #[.int .u8 48, .int .u8 49, .int .u8 50, .int .u8 51, .int .u8 52, .int .u8 53, .int .u8 54, .int .u8 55, .int .u8 56, .int .u8 57, .int .u8 97, .int .u8 98, .int .u8 99, .int .u8 100, .int .u8 101, .int .u8 102, .int .u8 48, .int .u8 49, .int .u8 50, .int .u8 51, .int .u8 52, .int .u8 53, .int .u8 54, .int .u8 55, .int .u8 56, .int .u8 57, .int .u8 97, .int .u8 98, .int .u8 99, .int .u8 100, .int .u8 101, .int .u8 102] 5 (32, 33))) (.slice (some ⟨w2.heap.size, 0, none⟩) 32 32) thirty) := hid (Byt.row (al_new w2 (.cells #[.int .u8 48, .int .u8 49, .int .u8 50, .int .u8 51, .int .u8 52, .int .u8 53, .int .u8 54, .int .u8 55, .int .u8 56, .int .u8 57, .int .u8 97, .int .u8 98, .int .u8 99, .int .u8 100, .int .u8 101, .int .u8 102, .int .u8 48, .int .u8 49, .int .u8 50, .int .u8 51, .int .u8 52, .int .u8 53, .int .u8 54, .int .u8 55, .int .u8 56, .int .u8 57, .int .u8 97, .int .u8 98, .int .u8 99, .int .u8 100, .int .u8 101, .int .u8 102] 5 (32, 33))) 32 32 rfl)
  have HBx : Hd (Below w2.heap.size w2 (w2.alloc (.cells #[.int .u8 48, .int .u8 49, .int .u8 50, .int .u8 51, .int .u8 52, .int .u8 53, .int .u8 54, .int .u8 55, .int .u8 56, .int .u8 57, .int .u8 97, .int .u8 98, .int .u8 99, .int .u8 100, .int .u8 101, .int .u8 102, .int .u8 48, .int .u8 49, .int .u8 50, .int .u8 51, .int .u8 52, .int .u8 53, .int .u8 54, .int .u8 55, .int .u8 56, .int .u8 57, .int .u8 97, .int .u8 98, .int .u8 99, .int .u8 100, .int .u8 101, .int .u8 102] 5 (32, 33)))) := hid ((Below.refl _ _).alloc (Nat.le_refl _) _)
  go_wp2_with fail
  generalize (w2.alloc (.cells #[.int .u8 48, .int .u8 49, .int .u8 50, .int .u8 51, .int .u8 52, .int .u8 53, .int .u8 54, .int .u8 55, .int .u8 56, .int .u8 57, .int .u8 97, .int .u8 98, .int .u8 99, .int .u8 100, .int .u8 101, .int .u8 102, .int .u8 48, .int .u8 49, .int .u8 50, .int .u8 51, .int .u8 52, .int .u8 53, .int .u8 54, .int .u8 55, .int .u8 56, .int .u8 57, .int .u8 97, .int .u8 98, .int .u8 99, .int .u8 100, .int .u8 101, .int .u8 102] 5 (32, 33))) = w4 at *
  have hW4 := HW2.out.below HBx.out
  have hAl : A < w2.heap.size := by obtain ⟨_, _, h⟩ := HW2.out; exact (h.lo A h.mem).2
  have hok : (⟨1, ⟨#[]⟩, ⟨3, 5, 4, W0, false⟩, [], none⟩ : Wel).ok := ⟨.inl rfl, by decide, Gd.ok_new (by decide) false, by simp⟩
  refine (wfeed_any w.heap.size A [A] _ _ thirty w4 hW4 hok HBy.out.src (fun ad n c h _ => by simp at h; rw [← h.1]; simp; omega) (Nat.le_trans HB2.out.size HBx.out.size)).mono ?_
  obtain ⟨y, hy⟩ := fed_thirty
  have hp : pourW ⟨1, ⟨#[]⟩, ⟨3, 5, 4, W0, false⟩, [], none⟩ thirty = (32, 0, ⟨1, ⟨#[]⟩, ⟨3, 5, 4, y, false⟩, thirty, none⟩) := by
    rw [pourW_take rfl (by decide), hy]
    rfl
  have hok2 := pourW_ok hok thirty
  rw [hp] at hok2 ⊢
  rintro e w5 ⟨rfl, bs5, hW5, hT5⟩
  dsimp only at hW5 hok2 ⊢
  have HW5 := hid hW5
  have HT5 := hid hT5
  have HB4 := hid (HB2.out.trans (HBx.out.mono HB2.out.size))
  have Hok2 := hid hok2
  clear hW5 hT5 hW4 hok hp hy hok2 HBy HBx HW2 HB2 kc
  go_wp2_with fail
  refine (samples_any w.heap.size A bs5 _ w5 HW5.out).mono ?_
  rintro e w6 ⟨rfl, hw⟩
  have hw6 := hw.symm
  subst hw6
  clear hw
  have hl : ((⟨1, ⟨#[]⟩, ⟨3, 5, 4, y, false⟩, thirty, none⟩ : Wel).kept.length : Int) = 32 := rfl
  rw [hl]
  clear hl
  go_wp2_with fail
  refine (wdraw_any 5 ⟨#[]⟩ w.heap.size A bs5 _ _ w5 HW5.out Hok2.out rfl (by decide) (by decide) (fun _ => by show 32 ≤ thirty.length; decide) rfl).mono ?_
  rintro e w7 ⟨gb, rfl, hgb, hr7, bs7, hW7, hT7⟩
  have hl7 : ((([] : List Int).length : Nat) : Int) = 0 := rfl
  rw [if_pos (show needs ⟨1, ⟨#[]⟩, ⟨3, 5, 4, y, false⟩, thirty, none⟩ = true from rfl)] at hW7
  obtain ⟨s7, hW7⟩ : ∃ s7, WellAt w7 w.heap.size A bs7 ⟨1, ⟨#[]⟩, ⟨3, 5, 4, y, false⟩, [], s7⟩ := ⟨_, hW7⟩
  have HW7 := hid hW7
  have HT7 := hid (HT5.out.trans hT7)
  clear hW7 hT7 hr7
  go_wp2_with fail
  refine (samples_any w.heap.size A bs7 _ w7 HW7.out).mono ?_
  rintro e w8 ⟨rfl, hw⟩
  have hw8 := hw.symm
  subst hw8
  clear hw
  go_wp2
  go_ret
  exact ⟨rfl, HB4.out.trans (HT7.out.below (fun b hb => by simp at hb; omega) HB4.out.size)⟩
end Go.Proofs.Ytbifmhbkmnofiaa
namespace Go.Proofs.Ytbifmhbkmnofiaa
open Go.RowKit
set_option linter.unusedVariables false
set_option linter.unusedSimpArgs false
/-- a byte as 'calm' makes it: r the round's number, p its place modulo 2 -/
def calmB (r p x : Int) : Int := if r = 1 then bits .xor .u8 (bits .or .u8 (bits .andNot .u8 x 1) p) 128 else bits .or .u8 (bits .andNot .u8 x 1) p
theorem calmB_all : ∀ x : Fin 256, ∀ p : Fin 2, (bits .xor .u8 (bits .or .u8 (bits .andNot .u8 ((x.val : Nat) : Int) 1) ((p.val : Nat) : Int)) 128 % 2 = ((p.val : Nat) : Int) ∧ 0 ≤ bits .xor .u8 (bits .or .u8 (bits .andNot .u8 ((x.val : Nat) : Int) 1) ((p.val : Nat) : Int)) 128 ∧ bits .xor .u8 (bits .or .u8 (bits .andNot .u8 ((x.val : Nat) : Int) 1) ((p.val : Nat) : Int)) 128 < 256) ∧ (bits .or .u8 (bits .andNot .u8 ((x.val : Nat) : Int) 1) ((p.val : Nat) : Int) % 2 = ((p.val : Nat) : Int) ∧ 0 ≤ bits .or .u8 (bits .andNot .u8 ((x.val : Nat) : Int) 1) ((p.val : Nat) : Int) ∧ bits .or .u8 (bits .andNot .u8 ((x.val : Nat) : Int) 1) ((p.val : Nat) : Int) < 256) := by decide +kernel
theorem calmB_bd (r : Int) (i : Nat) (x : Int) (h0 : 0 ≤ x) (h1 : x < 256) : calmB r ((i : Int) % 2) x % 2 = (i : Int) % 2 ∧ 0 ≤ calmB r ((i : Int) % 2) x ∧ calmB r ((i : Int) % 2) x < 256 := by
  have h := calmB_all ⟨x.toNat, by omega⟩ ⟨i % 2, by omega⟩
  have e1 : ((x.toNat : Nat) : Int) = x := by omega
  have e2 : (((i % 2 : Nat)) : Int) = (i : Int) % 2 := by omega
  dsimp only at h
  rw [e1, e2] at h
  unfold calmB
  split
  · exact h.1
  · exact h.2
/-- the first k bytes are made calm -/
def calmK (r : Int) (xs : List Int) (k : Nat) : List Int := xs.mapIdx (fun i x => if i < k then calmB r ((i : Int) % 2) x else x)
theorem calmK_len (r : Int) (xs : List Int) (k : Nat) : (calmK r xs k).length = xs.length := by simp [calmK]
theorem calmK_zero (r : Int) (xs : List Int) : calmK r xs 0 = xs := by
  apply List.ext_getElem?
  intro i
  simp [calmK, List.getElem?_mapIdx]
theorem calmK_get (r : Int) (xs : List Int) (k : Nat) (h : k < xs.length) : (calmK r xs k)[k]?.getD 0 = xs[k]?.getD 0 := by
  simp [calmK, List.getElem?_mapIdx, List.getElem?_eq_getElem h]
theorem calmK_step (r : Int) (xs : List Int) (k : Nat) (h : k < xs.length) : calmK r xs (k + 1) = (calmK r xs k).set k (calmB r ((k : Int) % 2) (xs[k]?.getD 0)) := by
  apply List.ext_getElem?
  intro i
  rw [List.getElem?_set]
  simp only [calmK, List.getElem?_mapIdx, List.length_mapIdx]
  by_cases e : k = i
  · subst e
    rw [if_pos rfl, if_pos h, List.getElem?_eq_getElem h]
    simp
  · rw [if_neg e]
    cases hx : xs[i]? with
    | none => rfl
    | some x =>
      simp only [Option.map_some]
      by_cases hl : i < k
      · rw [if_pos hl, if_pos (by omega)]
      · rw [if_neg hl, if_neg (by omega)]
/-- bytes as 'calm' makes them -/
def calmL (r : Int) (xs : List Int) : List Int := calmK r xs xs.length
theorem calmL_len (r : Int) (xs : List Int) : (calmL r xs).length = xs.length := calmK_len _ _ _
theorem calmL_get (r : Int) (xs : List Int) (i : Nat) (y : Int) (hB : allB xs) (h : (calmL r xs)[i]? = some y) : y % 2 = (i : Int) % 2 ∧ 0 ≤ y ∧ y < 256 := by
  unfold calmL calmK at h
  rw [List.getElem?_mapIdx] at h
  cases hx : xs[i]? with
  | none => rw [hx] at h; simp at h
  | some x =>
    rw [hx] at h
    simp only [Option.map_some, Option.some.injEq] at h
    have hi := (List.getElem?_eq_some_iff.1 hx).1
    rw [if_pos hi] at h
    have hb := hB x (List.mem_of_getElem? hx)
    rw [← h]
    exact calmB_bd r i x hb.1 hb.2
theorem calmL_B (r : Int) (xs : List Int) (hB : allB xs) : allB (calmL r xs) := fun y hy => by
  obtain ⟨i, h⟩ := List.getElem?_of_mem hy
  have := calmL_get r xs i y hB h
  exact this.2
/-- pairs of an even and an odd number -/
inductive Alt : List Int → Prop
  | nil : Alt []
  | pair {a b : Int} {r : List Int} (ha : a % 2 = 0) (hb : b % 2 = 1) (hr : Alt r) : Alt (a :: b :: r)
theorem alt_of : ∀ (ys : List Int), (∀ (i : Nat) (y : Int), ys[i]? = some y → y % 2 = (i : Int) % 2) → ys.length % 2 = 0 → Alt ys
  | [], _, _ => .nil
  | [a], _, h => by simp at h
  | a :: b :: r, h, hl => by
    refine .pair (by have := h 0 a rfl; simpa using this) (by have := h 1 b rfl; simpa using this) (alt_of r (fun i y hy => ?_) (by simp at hl; omega))
    have := h (i + 2) y (by simpa using hy)
    push_cast at this
    omega
/-- the watch behind calm samples -/
def Calm (x : WS) : Prop := x = W0 ∨ (x.s % 2 = 1 ∧ x.t = 1 ∧ x.c = 2)
theorem calm_pair {x : WS} (h : Calm x) {a b : Int} (ha : a % 2 = 0) (hb : b % 2 = 1) (r : List Int) (k : Nat) : ∃ y, takeW 50 2 2 x (a :: b :: r) k = takeW 50 2 2 y r (k + 1 + 1) ∧ Calm y := by
  have h1 : winW (runW x a) a 2 = ⟨a, 1, a, 1, 1⟩ ∧ (runW x a).t = 1 := by
    rcases h with rfl | ⟨hs, ht, hc⟩
    · have e : runW W0 a = ⟨a, 1, 0, 0, 0⟩ := by
        unfold runW W0
        dsimp only
        split
        · next e => rw [e]; rfl
        · rfl
      rw [e]
      exact ⟨winW_first a (by decide : (0 : Int) ≠ 2) rfl, rfl⟩
    · have e : runW x a = ⟨a, 1, x.f, x.n, x.c⟩ := by
        unfold runW
        rw [if_neg (by omega)]
      rw [e]
      exact ⟨winW_new a hc, rfl⟩
  have h2 : runW ⟨a, 1, a, 1, 1⟩ b = ⟨b, 1, a, 1, 1⟩ := by unfold runW; rw [if_neg (by dsimp only; omega)]
  have h3 : winW ⟨b, 1, a, 1, 1⟩ b 2 = ⟨b, 1, a, 1, 2⟩ := winW_else b (by decide : (1 : Int) ≠ 2) (by decide : (1 : Int) ≠ 0) (by dsimp only; omega)
  refine ⟨⟨b, 1, a, 1, 2⟩, ?_, .inr ⟨hb, rfl, rfl⟩⟩
  rw [takeW, h1.2, if_neg (by decide), h1.1, if_neg (by dsimp only; decide), takeW, h2, if_neg (by dsimp only; decide), h3, if_neg (by dsimp only; decide)]
theorem calm_take {x : WS} (h : Calm x) {ys : List Int} (hy : Alt ys) : ∀ k, ∃ y, takeW 50 2 2 x ys k = (y, none) ∧ Calm y := by
  induction hy generalizing x with
  | nil => exact fun k => ⟨x, rfl, h⟩
  | pair ha hb hr ih =>
    intro k
    obtain ⟨y, e, hc⟩ := calm_pair h ha hb _ k
    obtain ⟨z, e2, hz⟩ := ih hc (k + 1 + 1)
    exact ⟨z, by rw [e, e2], hz⟩
/-- the text as 'calm' makes it -/
def evenS (s : ByteArray) : ByteArray := (cut s 200).extract 0 ((cut s 200).size - (cut s 200).size % 2)
theorem evenS_size (s : ByteArray) : (evenS s).size ≤ 200 ∧ (evenS s).size % 2 = 0 := by
  have h := (cut_size s 200).1
  unfold evenS
  rw [ByteArray.size_extract]
  omega
def calmS (s : ByteArray) (r : Int) : ByteArray := toS (calmL r (bts (evenS s)))
theorem calmS_size (s : ByteArray) (r : Int) : (calmS s r).size ≤ 200 := by
  unfold calmS
  rw [toS_size, calmL_len, bts_len]
  exact (evenS_size s).1
theorem calmS_bts (s : ByteArray) (r : Int) : bts (calmS s r) = calmL r (bts (evenS s)) := bts_toS _ (calmL_B r _ (bts_B _))
theorem calmS_alt (s : ByteArray) (r : Int) : Alt (bts (calmS s r)) := by
  rw [calmS_bts]
  refine alt_of _ (fun i y h => (calmL_get r _ i y (bts_B _) h).1) ?_
  rw [calmL_len, bts_len]
  exact (evenS_size s).2
set_option maxRecDepth 20000 in
set_option maxHeartbeats 1000000 in
theorem calm_any (s : ByteArray) (r : Int) (w : World) (hs : s.size ≤ 9223372036854775807) :
    Calls Try.prog 32 #[.string s, .int .i64 r] w fun e w' => e = .returned (.string (calmS s r)) ∧ Below w.heap.size w w' := by
  have hres : Hd (calmS s r = toS (calmK r (bts (evenS s)) (evenS s).size)) := hid (by unfold calmS calmL; rw [bts_len])
  have hev := (evenS_size s).1
  have he : Hd (evenS s = (cut s 200).extract 0 ((cut s 200).size - (cut s 200).size % 2)) := hid rfl
  generalize evenS s = t at *
  have hc := (cut_size s 200).1
  go_enter Try.func32, Try.ntmps32
  go_wp2_with fail
  refine (short_any s 200 _ (by omega) hs).mono ?_
  rintro e w1 ⟨rfl, hw⟩
  have hw1 := hw.symm
  subst hw1
  clear hw
  generalize cut s 200 = c at *
  have hcm : (c.size : Int) % 2 ≤ c.size := by omega
  have hto : ((c.size : Int) - (c.size : Int) % 2).toNat = c.size - c.size % 2 := by omega
  have hts : Hd (c.size - c.size % 2 = t.size) := hid (by rw [he.out, ByteArray.size_extract]; omega)
  go_wp2_with (refine wpList_bytes2 rfl _ rfl (c.extract 0 (c.size - c.size % 2)) rfl ?_; intro w2 cap hB2 hz2 hb2 hcap)
  rw [← he.out] at *
  rw [hts.out]
  have hl := bts_len t
  go_loopw [6] (fun i wr => ∃ k : Nat, k ≤ t.size ∧ i = .int .i64 k ∧ BR wr w.heap.size (calmK r (bts t) k) ∧ Below w.heap.size w wr) (fun i _ => t.size - (intOf i).toNat)
  case atStart => exact ⟨0, by omega, rfl, by rw [calmK_zero]; exact hb2.out, hB2⟩
  case round =>
    clear hb2 hB2 hz2
    obtain ⟨k, hk, rfl, hR, hB⟩ := hrel
    by_cases hlt : k < t.size
    · obtain ⟨c0, f0⟩ := hR k (by rw [calmK_len]; omega)
      rw [calmK_get _ _ _ (by omega)] at c0
      have hst := hid (calmK_step r (bts t) k (by omega))
      have HR := hid hR
      have HB := hid hB
      clear hR hB
      generalize calmK r (bts t) k = l at *
      generalize (bts t)[k]?.getD 0 = x at *
      by_cases hr : r = 1
      · have hcb : Hd (calmB r ((k : Int) % 2) x = bits .xor .u8 (bits .or .u8 (bits .andNot .u8 x 1) ((k : Int) % 2)) 128) := hid (by unfold calmB; rw [if_pos hr])
        go_wp2
        refine ⟨⟨k + 1, by omega, by go_num, ?_, (HB.out.setCell (by simp) _).setCell (by simp) _⟩, by simp [intOf]; omega⟩
        have := (HR.out.set k (bits .or .u8 (bits .andNot .u8 x 1) ((k : Int) % 2))).set k (bits .xor .u8 (bits .or .u8 (bits .andNot .u8 x 1) ((k : Int) % 2)) 128)
        rw [List.set_set] at this
        rw [hst.out, hcb.out]
        exact this
      · have hcb : Hd (calmB r ((k : Int) % 2) x = bits .or .u8 (bits .andNot .u8 x 1) ((k : Int) % 2)) := hid (by unfold calmB; rw [if_neg hr])
        go_wp2
        refine ⟨⟨k + 1, by omega, by go_num, ?_, HB.out.setCell (by simp) _⟩, by simp [intOf]; omega⟩
        rw [hst.out, hcb.out]
        exact HR.out.set _ _
    · obtain rfl : k = t.size := by omega
      have y1 := hR.byt cap
      rw [calmK_len, bts_len] at y1
      have Y1 := hid y1
      clear y1 hR hlt
      generalize hmm : calmK r (bts t) t.size = mm at *
      have Hmm := hid hmm
      clear hmm
      go_wp2_with (refine wpList_str rfl _ rfl _ mm rfl Y1.out ?_)
      go_ret
      exact ⟨by rw [hres.out, ← Hmm.out]; rfl, hB⟩
end Go.Proofs.Ytbifmhbkmnofiaa
namespace Go.Proofs.Ytbifmhbkmnofiaa
open Go.RowKit
set_option linter.unusedVariables false
set_option linter.unusedSimpArgs false
/-- the generator behind q reads -/
def readF (f : Fnt) (n : Nat) (ex : List Int) : Nat → Fnt
  | 0 => f
  | q + 1 => ⟨behindF (readF f n ex q).g (readF f n ex q).r n ex, (readF f n ex q).r + 1⟩
theorem readF_r (f : Fnt) (n : Nat) (ex : List Int) : ∀ q, (readF f n ex q).r = f.r + q
  | 0 => rfl
  | q + 1 => by show (readF f n ex q).r + 1 = _; rw [readF_r f n ex q]; omega
theorem pour_calm {k : Int} {nm : ByteArray} {y : WS} {kept : List Int} {s : Option Fnt} (hy : Calm y) {ys : List Int} (ha : Alt ys) (hl : ys.length ≤ 200) : ∃ z, Calm z ∧ pourW ⟨k, nm, ⟨50, 2, 2, y, false⟩, kept, s⟩ ys = ((ys.length : Int), 0, ⟨k, nm, ⟨50, 2, 2, z, false⟩, keepL (kept ++ ys), s⟩) := by
  obtain ⟨z, hz, hc⟩ := calm_take hy ha 0
  have e : fedG ⟨50, 2, 2, y, false⟩ ys = ((ys.length : Int), 0, ⟨50, 2, 2, z, false⟩) := by unfold fedG; dsimp only; rw [hz]
  refine ⟨z, hc, ?_⟩
  rw [pourW_take rfl hl, e]
  dsimp only
  rw [if_pos rfl]
/-- the generator made by hand lies apart from the well and from block g -/
def HandAt (w : World) (N : Nat) (bs : List Nat) (g : Nat) (xv : Value) : Option Fnt → Prop
  | none => xv = .pointer none
  | some f => ∃ SA SB, xv = .pointer (some ⟨SA, 0, none⟩) ∧ FtAt w SA SB f ∧ N ≤ SA ∧ N ≤ SB ∧ SA ∉ bs ∧ SB ∉ bs ∧ SA ≠ g ∧ SB ≠ g
theorem HandAt.turn {w w' : World} {N g : Nat} {bs bs' : List Nat} {xv : Value} {t : Option Fnt} (h : HandAt w N bs g xv t) (hT : Turns w w' bs bs') (g' : Nat) (hg : g' = g ∨ w.heap.size ≤ g') : HandAt w' N bs' g' xv t := by
  cases t with
  | none => exact h
  | some f =>
    obtain ⟨SA, SB, h1, h2, h3, h4, h5, h6, h7, h8⟩ := h
    have l1 := h2.lt
    have l2 := h2.gen.lt
    refine ⟨SA, SB, h1, h2.other (hT.fr.block SA l1 h5) (hT.fr.block SB l2 h6), h3, h4, fun hh => ?_, fun hh => ?_, ?_, ?_⟩
    · rcases hT.grow _ hh with e | e
      · exact h5 e
      · omega
    · rcases hT.grow _ hh with e | e
      · exact h6 e
      · omega
    · rcases hg with rfl | hg
      · exact h7
      · omega
    · rcases hg with rfl | hg
      · exact h8
      · omega
/-- the well of 'Flows' and the generator made by hand -/
def FlAt (w : World) (N A : Nat) (k : Int) (nm : ByteArray) (kept : List Int) (s : Option Fnt) (g : Nat) (xv : Value) (t : Option Fnt) : Prop :=
  ∃ bs y, WellAt w N A bs ⟨k, nm, ⟨50, 2, 2, y, false⟩, kept, s⟩ ∧ Calm y ∧ (⟨k, nm, ⟨50, 2, 2, y, false⟩, kept, s⟩ : Wel).ok ∧ HandAt w N bs g xv t
theorem FlAt.ltA {w : World} {N A : Nat} {k : Int} {nm : ByteArray} {kept : List Int} {s : Option Fnt} {g : Nat} {xv : Value} {t : Option Fnt} (h : FlAt w N A k nm kept s g xv t) : A < w.heap.size := by
  obtain ⟨bs, y, ⟨sv, pv, h⟩, _⟩ := h
  exact (h.lo A h.mem).2
theorem FlAt.below {w w' : World} {N A : Nat} {k : Int} {nm : ByteArray} {kept : List Int} {s : Option Fnt} {g : Nat} {xv : Value} {t : Option Fnt} (h : FlAt w N A k nm kept s g xv t) (hb : Below w.heap.size w w') : FlAt w' N A k nm kept s g xv t := by
  obtain ⟨bs, y, h1, h2, h3, h4⟩ := h
  exact ⟨bs, y, h1.below hb, h2, h3, h4.turn (Turns.of_below bs hb) g (.inl rfl)⟩
theorem fl_feed (N A : Nat) (k : Int) (nm : ByteArray) (kept : List Int) (s : Option Fnt) (g : Nat) (xv : Value) (t : Option Fnt) (v : Value) (ys : List Int) (w : World) (h : FlAt w N A k nm kept s g xv t) (hv : Src w v ys) (hvB : ∀ ad n c, v = .slice (some ad) n c → 0 < n → ad.block ≠ A) (ha : Alt ys) (hl : ys.length ≤ 200) (hN : N ≤ w.heap.size) :
    Calls Try.prog 33 #[.pointer (some ⟨A, 0, none⟩), v] w fun e w' => e = .returned (.tuple #[.int .i64 ys.length, .int .i64 0]) ∧ FlAt w' N A k nm (keepL (kept ++ ys)) s g xv t ∧ Below N w w' := by
  obtain ⟨bs, y, h1, h2, h3, h4⟩ := h
  obtain ⟨z, hz, hp⟩ := pour_calm (k := k) (nm := nm) (kept := kept) (s := s) h2 ha hl
  have hok := pourW_ok h3 ys
  refine (wfeed_any N A bs _ v ys w h1 h3 hv hvB hN).mono ?_
  rw [hp] at hok ⊢
  rintro e w' ⟨rfl, bs', hW, hT⟩
  have hlo : ∀ b ∈ bs, N ≤ b := fun b hb => by obtain ⟨_, _, h⟩ := h1; exact (h.lo b hb).1
  exact ⟨rfl, ⟨bs', z, hW, hz, hok, h4.turn hT g (.inl rfl)⟩, hT.below hlo hN⟩
theorem fl_samples (N A : Nat) (k : Int) (nm : ByteArray) (kept : List Int) (s : Option Fnt) (g : Nat) (xv : Value) (t : Option Fnt) (w : World) (h : FlAt w N A k nm kept s g xv t) :
    Calls Try.prog 34 #[.pointer (some ⟨A, 0, none⟩)] w fun e w' => e = .returned (.int .i64 kept.length) ∧ w' = w := by
  obtain ⟨bs, y, h1, h2, h3, h4⟩ := h
  exact samples_any N A bs _ w h1
theorem fl_little (n : Nat) (ex : ByteArray) (N A : Nat) (k : Int) (nm : ByteArray) (kept : List Int) (s : Option Fnt) (g : Nat) (xv : Value) (t : Option Fnt) (w : World) (h : FlAt w N A k nm kept s g xv t) (hx : ex.size ≤ 64) (hn : n ≤ 200) (hs : ∀ f, s = some f → 8 < f.r) (hk : kept.length < 32) :
    Calls Try.prog 35 #[.pointer (some ⟨A, 0, none⟩), .int .i64 n, .string ex] w fun en w' => en = .returned (.tuple #[.slice none 0 0, .int .i64 7]) ∧ w' = w := by
  obtain ⟨bs, y, h1, h2, h3, h4⟩ := h
  refine wdraw_little n ex N A bs _ w h1 rfl hx hn ?_ hk
  cases s with
  | none => rfl
  | some f => exact decide_eq_true (hs f rfl)
/-- the generator from which a draw reads -/
def nextF (k : Int) (nm : ByteArray) (kept : List Int) : Option Fnt → Fnt
  | none => ⟨seedOf k (shaI kept ++ bts nm), 1⟩
  | some f => ⟨reseedOf f.g (shaI kept), 1⟩
theorem nextF_r (k : Int) (nm : ByteArray) (kept : List Int) (s : Option Fnt) : (nextF k nm kept s).r = 1 := by cases s <;> rfl
theorem fl_seed (n : Nat) (ex : ByteArray) (N A : Nat) (k : Int) (nm : ByteArray) (kept : List Int) (s : Option Fnt) (g : Nat) (xv : Value) (t : Option Fnt) (f : Fnt) (w : World) (h : FlAt w N A k nm kept s g xv t) (hx : ex.size ≤ 64) (hn : n ≤ 200) (hs : ∀ f, s = some f → 8 < f.r) (hk : 32 ≤ kept.length) (hf : nextF k nm kept s = f) (hN : N ≤ w.heap.size) :
    Calls Try.prog 35 #[.pointer (some ⟨A, 0, none⟩), .int .i64 n, .string ex] w fun en w' => ∃ gb, en = .returned (.tuple #[.slice (some ⟨gb, 0, none⟩) n n, .int .i64 0]) ∧ N ≤ gb ∧ w'.heap[gb]? = some (.cells (ints .u8 (bytesF f.g n (bts ex))) 5 (0, 0)) ∧ FlAt w' N A k nm [] (some (readF f n (bts ex) 1)) gb xv t ∧ Below N w w' := by
  obtain ⟨bs, y, h1, h2, h3, h4⟩ := h
  have hne : needs ⟨k, nm, ⟨50, 2, 2, y, false⟩, kept, s⟩ = true := by
    cases s with
    | none => rfl
    | some f => exact decide_eq_true (hs f rfl)
  have he : readyW ⟨k, nm, ⟨50, 2, 2, y, false⟩, kept, s⟩ = f := by
    unfold readyW
    rw [if_pos hne, ← hf]
    cases s <;> rfl
  refine (wdraw_any n ex N A bs _ f w h1 h3 rfl hx hn (fun _ => hk) he).mono ?_
  rintro en w' ⟨gb, rfl, hgb, hr, bs', hW, hT⟩
  rw [if_pos hne] at hW
  have hlo : ∀ b ∈ bs, N ≤ b := fun b hb => by obtain ⟨_, _, h⟩ := h1; exact (h.lo b hb).1
  exact ⟨gb, rfl, by omega, hr, ⟨bs', y, hW, h2, ⟨h3.k, h3.nm, h3.g, by simp⟩, h4.turn hT gb (.inr hgb)⟩, hT.below hlo hN⟩
theorem fl_draw (n : Nat) (ex : ByteArray) (N A : Nat) (k : Int) (nm : ByteArray) (f : Fnt) (g : Nat) (xv : Value) (t : Option Fnt) (w : World) (h : FlAt w N A k nm [] (some f) g xv t) (hx : ex.size ≤ 64) (hn : n ≤ 200) (hr8 : f.r ≤ 8) (hN : N ≤ w.heap.size) :
    Calls Try.prog 35 #[.pointer (some ⟨A, 0, none⟩), .int .i64 n, .string ex] w fun en w' => ∃ gb, en = .returned (.tuple #[.slice (some ⟨gb, 0, none⟩) n n, .int .i64 0]) ∧ N ≤ gb ∧ w'.heap[gb]? = some (.cells (ints .u8 (bytesF f.g n (bts ex))) 5 (0, 0)) ∧ FlAt w' N A k nm [] (some (readF f n (bts ex) 1)) gb xv t ∧ Below N w w' := by
  obtain ⟨bs, y, h1, h2, h3, h4⟩ := h
  refine (wdraw_read n ex N A bs k nm _ [] f w h1 rfl hx hn hr8).mono ?_
  rintro en w' ⟨gb, rfl, hgb, hr, hW, hT⟩
  have hlo : ∀ b ∈ bs, N ≤ b := fun b hb => by obtain ⟨_, _, h⟩ := h1; exact (h.lo b hb).1
  exact ⟨gb, rfl, by omega, hr, ⟨bs, y, hW, h2, ⟨h3.k, h3.nm, h3.g, by simp⟩, h4.turn hT gb (.inr hgb)⟩, hT.below hlo hN⟩
theorem fl_new (e : ByteArray) (N A : Nat) (k : Int) (nm : ByteArray) (kept : List Int) (s : Option Fnt) (g : Nat) (w : World) (h : FlAt w N A k nm kept s g (.pointer none) none) (he : may e = true) (hN : N ≤ w.heap.size) (hg : g < w.heap.size) :
    Calls Try.prog 20 #[.int .i64 k, .string e, .string ⟨#[]⟩, .string nm] w fun en w' => ∃ SA, en = .returned (.tuple #[.pointer (some ⟨SA, 0, none⟩), .int .i64 0]) ∧ FlAt w' N A k nm kept s g (.pointer (some ⟨SA, 0, none⟩)) (some ⟨seedOf k (bts e ++ bts nm), 1⟩) ∧ Below w.heap.size w w' := by
  obtain ⟨bs, y, h1, h2, h3, h4⟩ := h
  refine (new_any k e ⟨#[]⟩ nm w h3.k he (by decide) h3.nm).mono ?_
  rintro en w' ⟨SA, SB, rfl, hA, hB, hF, hBl⟩
  have hlo : ∀ b ∈ bs, b < w.heap.size := fun b hb => by obtain ⟨_, _, h⟩ := h1; exact (h.lo b hb).2
  rw [bts0', List.append_nil] at hF
  exact ⟨SA, rfl, ⟨bs, y, h1.below hBl, h2, h3, SA, SB, rfl, hF, by omega, by omega, fun hh => by have := hlo _ hh; omega, fun hh => by have := hlo _ hh; omega, by omega, by omega⟩, hBl⟩
theorem fl_reseed (e : ByteArray) (N A : Nat) (k : Int) (nm : ByteArray) (kept : List Int) (s : Option Fnt) (g : Nat) (xv : Value) (f : Fnt) (w : World) (h : FlAt w N A k nm kept s g xv (some f)) (he : may e = true) (hN : N ≤ w.heap.size) (hg : g < w.heap.size) :
    Calls Try.prog 36 #[xv, .string e, .string ⟨#[]⟩] w fun en w' => en = .returned (.int .i64 0) ∧ FlAt w' N A k nm kept s g xv (some ⟨reseedOf f.g (bts e), 1⟩) ∧ w'.heap[g]? = w.heap[g]? ∧ Below N w w' := by
  obtain ⟨bs, y, h1, h2, h3, SA, SB, rfl, hF, h4, h5, h6, h7, h8, h9⟩ := h
  refine (reseed_any f e ⟨#[]⟩ SA SB w hF he (by decide)).mono ?_
  rintro en w' ⟨rfl, hF', hE⟩
  rw [bts0', List.append_nil] at hF'
  have hlo : ∀ b ∈ bs, b < w.heap.size := fun b hb => by obtain ⟨_, _, h⟩ := h1; exact (h.lo b hb).2
  refine ⟨rfl, ⟨bs, y, h1.other hE.size (fun b hb => hE.block b (hlo b hb) (fun e => h6 (e ▸ hb)) (fun e => h7 (e ▸ hb))), h2, h3, SA, SB, rfl, hF', h4, h5, h6, h7, h8, h9⟩, ?_, hE.below h4 h5 hN⟩
  exact hE.block g hg h8.symm h9.symm
theorem fl_read (n : Nat) (ex : ByteArray) (N A : Nat) (k : Int) (nm : ByteArray) (kept : List Int) (s : Option Fnt) (g : Nat) (xv : Value) (f : Fnt) (w : World) (h : FlAt w N A k nm kept s g xv (some f)) (hx : ex.size ≤ 64) (hn : n ≤ 200) (hr8 : f.r ≤ 8) (hN : N ≤ w.heap.size) (hg : g < w.heap.size) :
    Calls Try.prog 23 #[xv, .int .i64 n, .string ex] w fun en w' => ∃ gb, en = .returned (.tuple #[.slice (some ⟨gb, 0, none⟩) n n, .int .i64 0]) ∧ w'.heap[gb]? = some (.cells (ints .u8 (bytesF f.g n (bts ex))) 5 (0, 0)) ∧ FlAt w' N A k nm kept s g xv (some (readF f n (bts ex) 1)) ∧ w'.heap[g]? = w.heap[g]? ∧ Below N w w' := by
  obtain ⟨bs, y, h1, h2, h3, SA, SB, rfl, hF, h4, h5, h6, h7, h8, h9⟩ := h
  refine (read_any f n ex SA SB w hF hx hn hr8).mono ?_
  rintro en w' ⟨gb, rfl, hgb, hr, hF', hE⟩
  have hlo : ∀ b ∈ bs, b < w.heap.size := fun b hb => by obtain ⟨_, _, h⟩ := h1; exact (h.lo b hb).2
  exact ⟨gb, rfl, hr, ⟨bs, y, h1.other hE.size (fun b hb => hE.block b (hlo b hb) (fun e => h6 (e ▸ hb)) (fun e => h7 (e ▸ hb))), h2, h3, SA, SB, rfl, hF', h4, h5, h6, h7, h8, h9⟩, hE.block g hg h8.symm h9.symm, hE.below h4 h5 hN⟩
end Go.Proofs.Ytbifmhbkmnofiaa
namespace Go.Proofs.Ytbifmhbkmnofiaa
open Go.RowKit
set_option linter.unusedVariables false
set_option linter.unusedSimpArgs false
theorem FlAt.okT {w : World} {N A : Nat} {k : Int} {nm : ByteArray} {kept : List Int} {s : Option Fnt} {g : Nat} {xv : Value} {f : Fnt} (h : FlAt w N A k nm kept s g xv (some f)) : f.g.ok := by
  obtain ⟨bs, y, _, _, _, SA, SB, _, hF, _⟩ := h
  exact hF.ok
theorem FlAt.toA {w : World} {N A : Nat} {k : Int} {nm : ByteArray} {kept : List Int} {s : Option Fnt} {g : Nat} {xv : Value} {f : Fnt} (h : FlAt w N A k nm kept s g xv (some f)) : FlAt w N A k nm kept s A xv (some f) := by
  obtain ⟨bs, y, h1, h2, h3, SA, SB, h4, h5, h6, h7, h8, h9, _, _⟩ := h
  have hm : A ∈ bs := by obtain ⟨_, _, h⟩ := h1; exact h.mem
  exact ⟨bs, y, h1, h2, h3, SA, SB, h4, h5, h6, h7, h8, h9, fun e => h8 (e ▸ hm), fun e => h9 (e ▸ hm)⟩
theorem readF_one (f : Fnt) (n : Nat) (ex : List Int) (q : Nat) : readF (readF f n ex q) n ex 1 = readF f n ex (q + 1) := rfl
theorem readF_zero (f : Fnt) (n : Nat) (ex : List Int) : readF f n ex 0 = f := rfl
theorem keepL_bts_long (t : ByteArray) (h : 200 < t.size) : bts (t.extract (t.size - 200) t.size) = keepL (bts t) := by
  have e := bts_mid t (t.size - 200) 200 (by omega)
  rw [show t.size - 200 + 200 = t.size by omega] at e
  rw [e]
  unfold keepL
  rw [bts_len, List.take_of_length_le (by rw [List.length_drop, bts_len]; omega)]
set_option maxRecDepth 20000 in
set_option maxHeartbeats 4000000 in
theorem flows_any (kind n : Int) (name ex : ByteArray) (vs : Value) (ss : List ByteArray) (w : World) (hv : SlV w vs (ss.map Value.string)) (hs : ∀ s ∈ ss, s.size ≤ 9223372036854775807) (hl : ss.length ≤ 9223372036854775807) (hnm : name.size ≤ 9223372036854775807) (hex : ex.size ≤ 9223372036854775807)
    (hk : -9223372036854775808 ≤ kind) (hk' : kind ≤ 9223372036854775807) (hn : -9223372036854775808 ≤ n) (hn' : n ≤ 9223372036854775807) :
    Calls Try.prog 9 #[.int .i64 kind, .string name, vs, .string ex, .int .i64 n] w fun e w' => e = .returned (.bool true) ∧ Below w.heap.size w w' := by
  obtain ⟨av, capv, rfl, hc0⟩ := hv
  rw [List.length_map] at hc0
  rw [List.length_map]
  have Hc := hid hc0
  have Hs := hid hs
  clear hc0 hs
  obtain ⟨p0, p1⟩ := pickI_bd kind 2 (by decide)
  obtain ⟨n0, n1⟩ := pickI_bd n 201 (by decide)
  have hz1 := cut64 name
  have hz2 := cut64 ex
  obtain ⟨m, hm⟩ : ∃ m : Nat, pickI n 201 = (m : Int) := ⟨(pickI n 201).toNat, by omega⟩
  go_enter Try.func9, Try.ntmps9
  go_wp2_with fail
  refine (flowed_any _).mono ?_
  rintro e w1 ⟨rfl, hB1⟩
  have HB1 := hid hB1
  clear hB1
  go_wp2_with fail
  refine (pick_any kind 2 _ hk hk' (by decide) (by decide)).mono ?_
  rintro e w2 ⟨rfl, hw2⟩
  have hw3 := hw2.symm
  subst hw3
  clear hw2
  generalize pickI kind 2 = pk at *
  go_wp2_with fail
  refine (short_any name 64 _ (by omega) hnm).mono ?_
  rintro e w2 ⟨rfl, hw2⟩
  have hw3 := hw2.symm
  subst hw3
  clear hw2
  generalize cut name 64 = nm at *
  go_wp2_with fail
  refine (short_any ex 64 _ (by omega) hex).mono ?_
  rintro e w2 ⟨rfl, hw2⟩
  have hw3 := hw2.symm
  subst hw3
  clear hw2
  generalize cut ex 64 = xx at *
  go_wp2_with fail
  refine (pick_any n 201 _ hn hn' (by decide) (by decide)).mono ?_
  rintro e w2 ⟨rfl, hw2⟩
  have hw3 := hw2.symm
  subst hw3
  clear hw2
  rw [hm] at n0 n1 ⊢
  clear hm
  have hm2 : m ≤ 200 := by omega
  go_wp2_with fail
  refine (open_yes (1 + pk) 50 2 2 nm w.heap.size _ (by omega) (by decide) hz1 HB1.out.size).mono ?_
  rintro e w4 ⟨A, rfl, hA, hW4, hB4⟩
  have hok : (⟨1 + pk, nm, ⟨50, 2, 2, W0, false⟩, [], none⟩ : Wel).ok := ⟨by show 1 + pk = 1 ∨ 1 + pk = 2; omega, hz1, Gd.ok_new (by decide) false, by simp⟩
  have HI : Hd (FlAt w4 w.heap.size A (1 + pk) nm [] none A (.pointer none) none ∧ Below w.heap.size w w4) := hid ⟨⟨_, _, hW4, .inl rfl, hok, rfl⟩, HB1.out.trans (hB4.mono HB1.out.size)⟩
  clear hW4 hB4 hok HB1 hA hk hk' hn hn' hnm hex
  generalize 1 + pk = K at *
  go_wp2
  go_loopw [16, 17] (fun xv i wr => ∃ r : Nat, r ≤ 3 ∧ i = .int .i64 r ∧ ∃ s, (∀ f, s = some f → 8 < f.r) ∧ FlAt wr w.heap.size A K nm [] s A xv s ∧ Below w.heap.size w wr) (fun _ i _ => 3 - (intOf i).toNat)
  case atStart => exact ⟨0, by omega, rfl, none, (fun f h => by cases h), HI.out.1, HI.out.2⟩
  case round =>
    clear HI
    obtain ⟨r, hr, rfl, s, hs8, hF, hB⟩ := hrel
    by_cases hr3 : r < 3
    · have HF := hid hF
      have HB := hid hB
      have Hs8 := hid hs8
      clear hF hB hs8
      have hFs : Hd (FlAt wr w.heap.size A K nm (keepL (bts ⟨#[]⟩)) s A u16 s) := hid HF.out
      have hr3' : (r : Int) < 3 := by omega
      go_upto_block 2 with fail
      go_cut [18] (fun kv wr2 => ∃ t : ByteArray, kv = .string t ∧ t.size ≤ 1600 ∧ FlAt wr2 w.heap.size A K nm (keepL (bts t)) s A u16 s ∧ Below w.heap.size w wr2)
      case first =>
        go_wp2
        go_loopw [18, 19] (fun kv i wr2 => ∃ (j : Nat) (t : ByteArray), j ≤ ss.length ∧ j ≤ 8 ∧ i = .int .i64 j ∧ kv = .string t ∧ t.size ≤ 200 * j ∧ FlAt wr2 w.heap.size A K nm (keepL (bts t)) s A u16 s ∧ Below w.heap.size w wr2) (fun _ i _ => 8 - (intOf i).toNat)
        case atStart => exact ⟨0, ⟨#[]⟩, by omega, by omega, rfl, rfl, by decide, hFs.out, HB.out⟩
        case round =>
          clear HF HB hFs
          obtain ⟨j, t, hj, hj8, rfl, rfl, htz, hF, hB⟩ := hrel
          by_cases hlt1 : j < ss.length
          · by_cases hlt2 : j < 8
            · obtain ⟨db, off, rfl, hcc⟩ := Hc.out (by omega)
              have c0 := hcc j (.string ss[j]) (by simp [List.getElem?_eq_getElem hlt1])
              have c1 : wr.cell? ⟨db, off + j, none⟩ = some (.string ss[j]) := by rw [hB.cell (World.block_lt_of_cell? w _ c0)]; exact c0
              have hsz := Hs.out ss[j] (List.getElem_mem hlt1)
              generalize ss[j] = sj at *
              have hlt1' : (j : Int) < ss.length := by omega
              have hlt2' : (j : Int) < 8 := by omega
              have HF := hid hF
              have HB := hid hB
              clear hF hB hcc c0
              go_wp2_with fail
              refine (calm_any sj r _ hsz).mono ?_
              rintro e w5 ⟨rfl, hB5⟩
              have HF5 := hid (HF.out.below hB5)
              have HB5 := hid (HB.out.trans (hB5.mono HB.out.size))
              have hcz := calmS_size sj r
              have hca := hid (calmS_alt sj r)
              clear hsz c1 hB5 HF HB
              generalize calmS sj r = tx at *
              go_wp2_with (refine wpList_bytes rfl _ rfl tx rfl ?_; intro w6 cap6 hB6 hz6 hb6)
              have hF6 := HF5.out.below hB6
              have hAl := HF5.out.ltA
              refine (fl_feed w.heap.size A K nm (keepL (bts t)) s A u16 s _ (bts tx) w6 hF6 hb6.out.src (fun ad n c h _ => by simp at h; rw [← h.1]; simp; omega) hca.out (by rw [bts_len]; exact hcz) (Nat.le_trans HB5.out.size hB6.size)).mono ?_
              rintro e w7 ⟨rfl, hF7, hB7⟩
              rw [bts_len, keepL_keepL, ← bts_append] at *
              have HF7 := hid hF7
              have HB7 := hid ((HB5.out.trans (hB6.mono HB5.out.size)).trans hB7)
              clear hF7 hB7 hF6 hB6 hb6 hca HF5 HB5
              go_wp2
              exact ⟨⟨j + 1, t ++ tx, by omega, by omega, by go_num, rfl, by rw [ByteArray.size_append]; omega, HF7.out, HB7.out⟩, by simp [intOf]; omega⟩
            · have hlt1' : (j : Int) < ss.length := by omega
              have hlt2' : ¬ (j : Int) < 8 := by omega
              go_wp2
              go_meet
              exact ⟨t, rfl, by omega, hF, hB⟩
          · have hlt1' : ¬ (j : Int) < ss.length := by omega
            go_wp2
            go_meet
            exact ⟨t, rfl, by omega, hF, hB⟩
      case rest =>
        clear HF HB hFs
        obtain ⟨t, rfl, htz, hF, hB⟩ := hcut
        have HF := hid hF
        have HB := hid hB
        clear hF hB
        go_upto_if 97 with fail
        go_cut [18] (fun kv wr3 => ∃ kp : ByteArray, kv = .string kp ∧ kp.size ≤ 200 ∧ FlAt wr3 w.heap.size A K nm (bts kp) s A u16 s ∧ Below w.heap.size w wr3)
        case first =>
          by_cases h200 : 200 < t.size
          · have h200' : (200 : Int) < t.size := by omega
            have hkl := hid (keepL_bts_long t h200)
            go_wp2
            go_meet
            exact ⟨t.extract (t.size - 200) t.size, rfl, by rw [ByteArray.size_extract]; omega, by rw [hkl.out]; exact HF.out, HB.out⟩
          · have h200' : ¬ (200 : Int) < t.size := by omega
            have hks := hid (keepL_short (xs := bts t) (by rw [bts_len]; omega))
            go_wp2
            go_meet
            exact ⟨t, rfl, by omega, by rw [← hks.out]; exact HF.out, HB.out⟩
        case rest =>
          clear HF HB htz
          obtain ⟨kp, rfl, hkz, hF, hB⟩ := hcut
          have HF := hid hF
          have HB := hid hB
          clear hF hB
          go_wp2_with fail
          refine (fl_samples w.heap.size A K nm (bts kp) s A u16 s _ HF.out).mono ?_
          rintro e w5 ⟨rfl, hw⟩
          have hw5 := hw.symm
          subst hw5
          clear hw
          rw [bts_len]
          by_cases h32 : kp.size < 32
          · have h32' : (kp.size : Int) < 32 := by omega
            go_wp2_with fail
            refine (fl_little m xx w.heap.size A K nm (bts kp) s A u16 s _ HF.out hz2 hm2 Hs8.out (by rw [bts_len]; exact h32)).mono ?_
            rintro e w5 ⟨rfl, hw⟩
            have hw5 := hw.symm
            subst hw5
            clear hw
            go_wp2_with fail
            refine (fl_samples w.heap.size A K nm (bts kp) s A u16 s _ HF.out).mono ?_
            rintro e w5 ⟨rfl, hw⟩
            have hw5 := hw.symm
            subst hw5
            clear hw
            rw [bts_len]
            go_wp2
            go_ret
            exact ⟨rfl, HB.out⟩
          · have h32' : ¬ (kp.size : Int) < 32 := by omega
            obtain ⟨f, hf⟩ : ∃ f, nextF K nm (bts kp) s = f := ⟨_, rfl⟩
            have hfr : f.r = 1 := by rw [← hf]; exact nextF_r _ _ _ _
            have Hf := hid hf
            clear hf
            go_wp2_with fail
            refine (fl_seed m xx w.heap.size A K nm (bts kp) s A u16 s f _ HF.out hz2 hm2 Hs8.out (by rw [bts_len]; omega) Hf.out HB.out.size).mono ?_
            rintro e w6 ⟨gb, rfl, hgb, hr6, hF6, hB6⟩
            have HF6 := hid hF6
            have HB6 := hid (HB.out.trans hB6)
            have Hr6 := hid hr6
            clear hF6 hB6 hr6 HF HB
            go_wp2_with fail
            refine (SSum_yes kp _ (by omega)).mono ?_
            rintro e w7 ⟨rfl, hB7⟩
            have hgl : gb < w6.heap.size := (Array.getElem?_eq_some_iff.1 Hr6.out).1
            have HF7 := hid (HF6.out.below hB7)
            have HB7 := hid (HB6.out.trans (hB7.mono HB6.out.size))
            have Hr7 := hid ((hB7.block gb hgl).trans Hr6.out)
            have hgl7 : gb < w7.heap.size := Nat.lt_of_lt_of_le hgl hB7.size
            clear hB7 HF6 HB6 Hr6 hgl
            have hebt : Hd (bts (toS (shaI (bts kp))) = shaI (bts kp)) := hid (bts_toS _ (shaI_B _))
            have hmay : Hd (may (toS (shaI (bts kp))) = true) := hid (by unfold may; rw [toS_size, shaI_len]; decide)
            generalize toS (shaI (bts kp)) = en at *
            go_upto_region 30 with fail
            go_cut [138] (fun bv wr3 => bv = .bool s.isNone ∧ wr3 = w7)
            case first =>
              cases s with
              | none =>
                have hu : u16 = .pointer none := by obtain ⟨_, _, _, _, _, h⟩ := HF7.out; exact h
                subst hu
                go_wp2
                go_meet
                exact ⟨rfl, rfl⟩
              | some f0 =>
                obtain ⟨SA, hu⟩ : ∃ SA, u16 = .pointer (some ⟨SA, 0, none⟩) := by obtain ⟨_, _, _, _, _, SA, SB, h, _⟩ := HF7.out; exact ⟨SA, h⟩
                subst hu
                go_wp2
                go_meet
                exact ⟨rfl, rfl⟩
            case rest =>
            obtain ⟨rfl, hw⟩ := hcut
            have hw7 := hw.symm
            subst hw7
            clear hw
            go_upto_if 138 with fail
            go_cut [15, 16] (fun ev xv wr3 => ev = .int .i64 0 ∧ ∃ SA, xv = .pointer (some ⟨SA, 0, none⟩) ∧ FlAt wr3 w.heap.size A K nm [] (some (readF f m (bts xx) 1)) gb xv (some f) ∧ wr3.heap[gb]? = some (.cells (ints .u8 (bytesF f.g m (bts xx))) 5 (0, 0)) ∧ gb < wr3.heap.size ∧ Below w.heap.size w wr3)
            case first =>
              cases s with
              | none =>
                have hu : u16 = .pointer none := by obtain ⟨_, _, _, _, _, h⟩ := HF7.out; exact h
                subst hu
                go_wp2_with fail
                refine (fl_new en w.heap.size A K nm [] _ gb _ HF7.out hmay.out HB7.out.size hgl7).mono ?_
                rintro e w8 ⟨SA, rfl, hF8, hB8⟩
                have hfe : (⟨seedOf K (bts en ++ bts nm), 1⟩ : Fnt) = f := by rw [hebt.out]; exact Hf.out
                rw [hfe] at hF8
                have HF8 := hid hF8
                have HB8 := hid (HB7.out.trans (hB8.mono HB7.out.size))
                have Hr8 := hid ((hB8.block gb hgl7).trans Hr7.out)
                have hgl8 : gb < w8.heap.size := Nat.lt_of_lt_of_le hgl7 hB8.size
                clear hF8 hB8 hfe HF7 HB7 Hr7
                go_wp2
                go_meet
                exact ⟨rfl, SA, rfl, HF8.out, Hr8.out, hgl8, HB8.out⟩
              | some f0 =>
                obtain ⟨SA, hu⟩ : ∃ SA, u16 = .pointer (some ⟨SA, 0, none⟩) := by obtain ⟨_, _, _, _, _, SA, SB, h, _⟩ := HF7.out; exact ⟨SA, h⟩
                subst hu
                go_wp2_with fail
                refine (fl_reseed en w.heap.size A K nm [] _ gb _ f0 _ HF7.out hmay.out HB7.out.size hgl7).mono ?_
                rintro e w8 ⟨rfl, hF8, hg8, hB8⟩
                have hfe : (⟨reseedOf f0.g (bts en), 1⟩ : Fnt) = f := by rw [hebt.out]; exact Hf.out
                rw [hfe] at hF8
                have HF8 := hid hF8
                have HB8 := hid (HB7.out.trans hB8)
                have Hr8 := hid (hg8.trans Hr7.out)
                have hgl8 : gb < w8.heap.size := Nat.lt_of_lt_of_le hgl7 hB8.size
                clear hF8 hB8 hfe HF7 HB7 Hr7 hg8
                go_wp2
                go_meet
                exact ⟨rfl, SA, rfl, HF8.out, Hr8.out, hgl8, HB8.out⟩
            case rest =>
              clear HF7 HB7 Hr7 hebt hmay hgl7 Hf
              obtain ⟨rfl, SA, rfl, hF, hr9, hgl, hB⟩ := hcut
              have HF := hid hF
              have HB := hid hB
              have Hr := hid hr9
              clear hF hB hr9
              go_wp2_with fail
              refine (fl_samples w.heap.size A K nm [] _ gb _ _ _ HF.out).mono ?_
              rintro e w9 ⟨rfl, hw⟩
              have hw9 := hw.symm
              subst hw9
              clear hw
              have hl0 : ((([] : List Int).length : Nat) : Int) = 0 := rfl
              rw [hl0]
              clear hl0
              go_wp2
              go_loopw [23, 24, 27] (fun lv fv i wr => ∃ q gq : Nat, q ≤ 8 ∧ i = .int .i64 q ∧ fv = .int .i64 0 ∧ lv = .slice (some ⟨gq, 0, none⟩) m m ∧ FlAt wr w.heap.size A K nm [] (some (readF f m (bts xx) (max q 1))) gq (.pointer (some ⟨SA, 0, none⟩)) (some (readF f m (bts xx) q)) ∧ (q = 0 → wr.heap[gq]? = some (.cells (ints .u8 (bytesF f.g m (bts xx))) 5 (0, 0))) ∧ gq < wr.heap.size ∧ Below w.heap.size w wr) (fun _ _ i _ => 8 - (intOf i).toNat)
              case atStart => exact ⟨0, gb, by omega, rfl, rfl, rfl, HF.out, fun _ => Hr.out, hgl, HB.out⟩
              case round =>
                clear HF HB Hr hgl
                obtain ⟨q, gq, hq, rfl, rfl, rfl, hF, hr9, hgl, hB⟩ := hrel
                have hqr := readF_r f m (bts xx) q
                rw [hfr] at hqr
                by_cases hq8 : q < 8
                · have hq8' : (q : Int) < 8 := by omega
                  have HF := hid hF
                  have HB := hid hB
                  have Hr := hid hr9
                  clear hF hB hr9
                  go_upto_if 169 with fail
                  go_cut [23, 24] (fun lv fv wr3 => fv = .int .i64 0 ∧ ∃ gq : Nat, lv = .slice (some ⟨gq, 0, none⟩) m m ∧ FlAt wr3 w.heap.size A K nm [] (some (readF f m (bts xx) (q + 1))) gq (.pointer (some ⟨SA, 0, none⟩)) (some (readF f m (bts xx) q)) ∧ wr3.heap[gq]? = some (.cells (ints .u8 (bytesF (readF f m (bts xx) q).g m (bts xx))) 5 (0, 0)) ∧ gq < wr3.heap.size ∧ Below w.heap.size w wr3)
                  case first =>
                    by_cases hq0 : 0 < q
                    · have hq0' : (0 : Int) < q := by omega
                      have hF1 := HF.out
                      rw [Nat.max_eq_left (show 1 ≤ q by omega)] at hF1
                      have HF1 := hid hF1
                      clear hF1 HF
                      go_wp2_with fail
                      refine (fl_draw m xx w.heap.size A K nm (readF f m (bts xx) q) gq _ _ _ HF1.out hz2 hm2 (by omega) HB.out.size).mono ?_
                      rintro e w6 ⟨g6, rfl, hg6, hr6, hF6, hB6⟩
                      rw [readF_one] at hF6
                      have HF6 := hid hF6
                      have HB6 := hid (HB.out.trans hB6)
                      have Hr6 := hid hr6
                      have hgl6 : g6 < w6.heap.size := (Array.getElem?_eq_some_iff.1 hr6).1
                      clear hF6 hB6 hr6 HF1 HB Hr
                      go_wp2
                      go_meet
                      exact ⟨rfl, g6, rfl, HF6.out, Hr6.out, hgl6, HB6.out⟩
                    · have hq0' : ¬ (0 : Int) < q := by omega
                      have hqz : Hd (q = 0) := hid (by omega)
                      clear hq0
                      go_wp2
                      go_meet
                      refine ⟨rfl, gq, rfl, ?_, ?_, hgl, HB.out⟩
                      · have h := HF.out
                        rw [hqz.out] at h ⊢
                        exact h
                      · have h := Hr.out hqz.out
                        rw [hqz.out]
                        exact h
                  case rest =>
                    clear HF HB Hr hgl
                    obtain ⟨rfl, gq, rfl, hF, hr9, hgl, hB⟩ := hcut
                    have HF := hid hF
                    have HB := hid hB
                    have Hr := hid hr9
                    have hok := hF.okT
                    clear hF hB hr9
                    go_wp2_with fail
                    refine (fl_read m xx w.heap.size A K nm [] _ gq _ (readF f m (bts xx) q) _ HF.out hz2 hm2 (by omega) HB.out.size hgl).mono ?_
                    rintro e w6 ⟨g6, rfl, hr6, hF6, hg6, hB6⟩
                    rw [readF_one] at hF6
                    have HF6 := hid hF6
                    have HB6 := hid (HB.out.trans hB6)
                    have hgl6 : gq < w6.heap.size := Nat.lt_of_lt_of_le hgl hB6.size
                    have hbl := bytesF_len hok m (bts xx)
                    have Hr7 := hid (hg6.trans Hr.out)
                    have Hr6 := hid hr6
                    clear hF6 hB6 hr6 hg6 HF HB Hr hok
                    generalize bytesF (readF f m (bts xx) q).g m (bts xx) = bb at *
                    have Y1 : Hd (Byt w6 (.slice (some ⟨gq, 0, none⟩) m m) bb) := hid (by have := byt_block Hr7.out m; rw [hbl] at this; exact this)
                    have Y2 : Hd (Byt w6 (.slice (some ⟨g6, 0, none⟩) m m) bb) := hid (by have := byt_block Hr6.out m; rw [hbl] at this; exact this)
                    have E1 := run_str Y1.out
                    have E2 := run_str Y2.out
                    clear Y1 Y2 Hr7 Hr6 hbl
                    generalize toS bb = ts at *
                    go_wp2
                    exact ⟨⟨q + 1, gq, by omega, by go_num, rfl, rfl, by rw [Nat.max_eq_left (show 1 ≤ q + 1 by omega)]; exact HF6.out, (fun h => absurd h (by omega)), hgl6, HB6.out⟩, by simp [intOf]; omega⟩
                · obtain rfl : q = 8 := by omega
                  have HF := hid hF
                  have HB := hid hB
                  clear hF hB hr9
                  go_wp2_with fail
                  refine (fl_little m xx w.heap.size A K nm [] _ gq _ _ _ HF.out hz2 hm2 (fun f' hf' => by cases hf'; show 8 < (readF f m (bts xx) 8).r; omega) (by decide)).mono ?_
                  rintro e w6 ⟨rfl, hw⟩
                  have hw6 := hw.symm
                  subst hw6
                  clear hw
                  go_wp2
                  exact ⟨⟨r + 1, by omega, by go_num, some (readF f m (bts xx) 8), (fun f' hf' => by cases hf'; show 8 < (readF f m (bts xx) 8).r; omega), HF.out.toA, HB.out⟩, by simp [intOf]; omega⟩
    · go_wp2
      go_ret
      exact ⟨rfl, hB⟩
end Go.Proofs.Ytbifmhbkmnofiaa
