import Derived.Test.YtbifmhbkmnofiaaRe
import Derived.Deep.AppendLies
namespace Go.Proofs.Ytbifmhbkmnofiaa
open Go.RowKit
set_option linter.unusedVariables false
set_option linter.unusedSimpArgs false
theorem Try.infoI : (Try.prog.info? 3).map (fun i => (i.zero, i.size, i.bytes)) = some (some (.int .i64 0), 1, 8) := by kernel_rfl
/-- a list of numbers that the call owns -/
def OwnI (w : World) (N : Nat) (v : Value) (xs : List Int) : Prop := w.ownsRow N 3 1 v xs.length (xs.map (Value.int .i64))
theorem OwnI.form {w : World} {N : Nat} {v : Value} {xs : List Int} (h : OwnI w N v xs) (hp : 0 < xs.length) : ∃ g cap, v = .slice (some ⟨g, 0, none⟩) xs.length cap ∧ N ≤ g ∧ g < w.heap.size ∧ ∀ j, j < xs.length → w.cell? ⟨g, j, none⟩ = some (.int .i64 (xs[j]?.getD 0)) := by
  rcases h.2 with ⟨rfl, h0⟩ | ⟨g, cap, cur, rfl, hN, hgg, _, _, _, htake⟩
  · omega
  · refine ⟨g, cap, rfl, hN, (Array.getElem?_eq_some_iff.1 hgg).1, fun j hj => ?_⟩
    have := World.ownsRow.cells h (g := g) rfl j (.int .i64 (xs[j]?.getD 0)) (by simp [List.getElem?_eq_getElem hj])
    rw [Addr.add_mid, Nat.zero_add] at this
    exact this
theorem OwnI.step {w wr w1 : World} {N : Nat} {xs : List Int} {b v' : Value} {x : Int} {o : Obj} (hown : OwnI wr N b xs) (hB : Below N w wr) (hN : N ≤ wr.heap.size)
    (hown' : w1.ownsRow N 3 1 v' (xs.length + 1) (xs.map (Value.int .i64) ++ [Value.int .i64 x])) (hg : (wr.alloc o).grownBy w1 b.ownBlock) : OwnI w1 N v' (xs ++ [x]) ∧ Below N w w1 :=
  ⟨by unfold OwnI; simpa using hown', (hB.alloc hN o).grown hg (by simp; omega) (fun k hk => (World.ownsRow.lt hown k hk).1)⟩
theorem OwnI.step3 {w w3 w4 : World} {N n : Nat} {St : List Int} {b v' : Value} {x : Int} {o : Obj} (hown : w3.ownsRow N 3 1 b n (St.map (Value.int .i64))) (hB : Below N w w3) (hN : N ≤ w3.heap.size) (hl : St.length = n)
    (hown' : w4.ownsRow N 3 1 v' (n + 1) (St.map (Value.int .i64) ++ [Value.int .i64 x])) (hg : (w3.alloc o).drew.grownBy w4 b.ownBlock) : OwnI w4 N v' (St ++ [x]) ∧ Below N w w4 := by
  subst hl
  exact ⟨by unfold OwnI; simpa using hown', (hB.alloc hN o).drew.grown hg (by simp; omega) (fun k hk => (World.ownsRow.lt hown k hk).1)⟩
theorem OwnI.fresh (w : World) (N : Nat) (xs : List Int) (hN : N ≤ w.heap.size) (hl : xs.length ≤ 100) : OwnI (w.alloc (.cells (ints .i64 xs) 3)) N (.slice (some ⟨w.heap.size, 0, none⟩) xs.length xs.length) xs :=
  ⟨by simp, .inr ⟨w.heap.size, xs.length, ints .i64 xs, rfl, hN, al_new _ _, Nat.le_refl _, by unfold maxLen; omega, by rw [ints_size]; omega, by
    simp [ints, List.take_of_length_le]⟩⟩
theorem OwnI.base {w : World} {N N' : Nat} {v : Value} {xs : List Int} (h : OwnI w N v xs) (hN : N' ≤ N) : OwnI w N' v xs := by
  refine ⟨h.1, ?_⟩
  rcases h.2 with hn | ⟨g, cap, cur, hv, hb, rest⟩
  · exact .inl hn
  · exact .inr ⟨g, cap, cur, hv, Nat.le_trans hN hb, rest⟩
theorem OwnI.drewN {w : World} {N : Nat} {v : Value} {xs : List Int} (h : OwnI w N v xs) (n : Nat) : OwnI (w.drewN n) N v xs := h
theorem take_snoc_get (xs : List Int) (k : Nat) (h : k < xs.length) : xs.take (k + 1) = xs.take k ++ [xs[k]?.getD 0] := by
  rw [List.take_succ_eq_append_getElem h, List.getElem?_eq_getElem h]; rfl
theorem getD_take (xs : List Int) (k j : Nat) (h : j < k) : (xs.take k)[j]?.getD 0 = xs[j]?.getD 0 := by
  rw [List.getElem?_take]; simp [h]
theorem wrap_small (x : Int) (h0 : -9223372036854775808 ≤ x) (h1 : x ≤ 9223372036854775807) : IntKind.i64.wrap x = x := by
  rw [IntKind.wrap_i64]; omega
def V8 (wx : World) (vb kb g t : Nat) (A B C D E F G H k x : Int) : Prop :=
  wx.cell? ⟨vb, 0, none⟩ = some (.int .i64 A) ∧ wx.cell? ⟨vb, 1, none⟩ = some (.int .i64 B) ∧ wx.cell? ⟨vb, 2, none⟩ = some (.int .i64 C) ∧ wx.cell? ⟨vb, 3, none⟩ = some (.int .i64 D) ∧
  wx.cell? ⟨vb, 4, none⟩ = some (.int .i64 E) ∧ wx.cell? ⟨vb, 5, none⟩ = some (.int .i64 F) ∧ wx.cell? ⟨vb, 6, none⟩ = some (.int .i64 G) ∧ wx.cell? ⟨vb, 7, none⟩ = some (.int .i64 H) ∧
  wx.cell? ⟨kb, t, none⟩ = some (.int .i64 k) ∧ wx.cell? ⟨g, t, none⟩ = some (.int .i64 x)
theorem ch64 (E F G : Int) (hE : W32 E) (hF : W32 F) (hG : W32 G) : bits .or .i64 (bits .and .i64 E F) (bits .and .i64 (4294967295 - E) G) = bits .or .u32 (bits .and .u32 E F) (bits .and .u32 (4294967295 - E) G) := by
  have hn : W32 (4294967295 - E) := ⟨by have := hE.2; omega, by have := hE.1; omega⟩
  rw [and_w hE hF, and_w hn hG, or_w (bits_u32 _ _ _ (by simp)) (bits_u32 _ _ _ (by simp))]
theorem maj64 (A B C : Int) (hA : W32 A) (hB : W32 B) (hC : W32 C) : bits .or .i64 (bits .or .i64 (bits .and .i64 A B) (bits .and .i64 A C)) (bits .and .i64 B C) = bits .or .u32 (bits .or .u32 (bits .and .u32 A B) (bits .and .u32 A C)) (bits .and .u32 B C) := by
  rw [and_w hA hB, and_w hA hC, and_w hB hC, or_w (bits_u32 _ _ _ (by simp)) (bits_u32 _ _ _ (by simp)), or_w (bits_u32 _ _ _ (by simp)) (bits_u32 _ _ _ (by simp))]
theorem rot3 (x a b c : Int) : bits .xor .i64 (bits .xor .i64 (rotI x a) (rotI x b)) (rotI x c) = bits .xor .u32 (bits .xor .u32 (rotI x a) (rotI x b)) (rotI x c) := by
  rw [xor_w (rot_W _ _) (rot_W _ _), xor_w (bits_u32 _ _ _ (by simp)) (rot_W _ _)]
theorem KT_W : allW KT := by
  intro x hx
  have : ∀ y ∈ KT, 0 ≤ y ∧ y ≤ 4294967295 := by decide +kernel
  exact this x hx
theorem w64 (x : Int) (h0 : -9223372036854775808 ≤ x) (h1 : x ≤ 9223372036854775807) : wrap64 x = x := by
  unfold wrap64; omega
theorem div8_W (x : Int) (k : Int) (h : W32 x) (hk : 0 < k) : W32 (x / k) := ⟨Int.ediv_nonneg h.1 (by omega), Int.le_trans (Int.ediv_le_self _ h.1) h.2⟩
theorem sg0_64 (x : Int) (h : W32 x) : bits .xor .i64 (bits .xor .i64 (rotI x 7) (rotI x 18)) (x / 8) = sg0 x := by
  rw [xor_w (rot_W _ _) (rot_W _ _), xor_w (bits_u32 _ _ _ (by simp)) (div8_W x 8 h (by decide))]; rfl
theorem sg1_64 (x : Int) (h : W32 x) : bits .xor .i64 (bits .xor .i64 (rotI x 17) (rotI x 19)) (x / 1024) = sg1 x := by
  rw [xor_w (rot_W _ _) (rot_W _ _), xor_w (bits_u32 _ _ _ (by simp)) (div8_W x 1024 h (by decide))]; rfl
theorem sg0_W (x : Int) : W32 (sg0 x) := bits_u32 _ _ _ (by simp)
theorem sg1_W (x : Int) : W32 (sg1 x) := bits_u32 _ _ _ (by simp)
end Go.Proofs.Ytbifmhbkmnofiaa
