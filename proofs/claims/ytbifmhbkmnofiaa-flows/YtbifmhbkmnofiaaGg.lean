import Derived.Test.YtbifmhbkmnofiaaGf
namespace Go.Proofs.Ytbifmhbkmnofiaa
open Go.RowKit
set_option linter.unusedVariables false
set_option linter.unusedSimpArgs false
theorem NumAt.other {w w' : World} {B : Nat} {pre post : List Value} {V : List Int} (h : NumAt w B pre post V) (he : w'.heap[B]? = w.heap[B]?) : NumAt w' B pre post V := by
  obtain ⟨t, h⟩ := h
  exact ⟨t, he.trans h⟩
theorem NumAt.lt {w : World} {B : Nat} {pre post : List Value} {V : List Int} (h : NumAt w B pre post V) : B < w.heap.size := by
  obtain ⟨t, h⟩ := h
  exact (Array.getElem?_eq_some_iff.1 h).1
theorem Try.alloc155 (w : World) : Sem.run Try.prog (Instr.alloc 155 true (Value.tuple #[])) w = .ok (.pointer (some ⟨w.heap.size, 0, none⟩)) (w.alloc (.cells (ints .u8 Z8) 155)) := by kernel_rfl
def be8 (n : Int) : List Int := lenBytes n 8
theorem lenBytes_B (n : Int) : ∀ k, allB (lenBytes n k)
  | 0 => by intro x hx; simp [lenBytes] at hx
  | k + 1 => by
    intro x hx
    rw [lenBytes, List.mem_append] at hx
    rcases hx with hx | hx
    · exact lenBytes_B n k x hx
    · simp only [List.mem_singleton] at hx
      subst hx
      unfold lenB; omega
def part8 (n : Int) (k : Nat) : List Int := lenBytes n k ++ zeros (8 - k)
theorem part8_len (n : Int) (k : Nat) (h : k ≤ 8) : (part8 n k).length = 8 := by simp [part8, lenBytes_len, zeros_len]; omega
theorem part8_step (n : Int) (k : Nat) (h : k < 8) : part8 n (k + 1) = (part8 n k).set k (lenB n k) := by
  unfold part8 zeros
  rw [List.set_append_right _ _ (by rw [lenBytes_len]; omega), lenBytes_len, Nat.sub_self, show 8 - k = (8 - (k + 1)) + 1 by omega, List.replicate_succ (n := 8 - (k + 1)), List.set_cons_zero, lenBytes, List.append_assoc]; rfl
theorem part8_get (n : Int) (k : Nat) (h : k < 8) : (part8 n k)[k]?.getD 0 = 0 := by
  unfold part8 zeros
  rw [List.getElem?_append_right (by rw [lenBytes_len]; omega), lenBytes_len, Nat.sub_self, List.getElem?_replicate, if_pos (by omega)]; rfl
theorem part8_end (n : Int) : part8 n 8 = be8 n := by simp [part8, be8, zeros]
set_option maxRecDepth 20000 in
set_option maxHeartbeats 1000000 in
theorem nsmall_any (V : List Int) (n : Int) (B off : Nat) (pre post : List Value) (w : World) (hV : V.length = 55) (hVB : allB V) (hpre : pre.length = off) (hS : NumAt w B pre post V) (hn0 : 0 ≤ n) (hn1 : n ≤ 18446744073709551615) :
    Calls Try.prog 93 #[.pointer (some ⟨B, off, none⟩), .int .u64 n] w fun e w' => e = .returned (.tuple #[]) ∧ NumAt w' B pre post (addI V (be8 n)) ∧ Ex B w w' := by
  have hlt := hS.lt
  have hb1 := al_new w (.cells (ints .u8 Z8) 155)
  have hB1 : Below w.heap.size w (w.alloc (.cells (ints .u8 Z8) 155)) := (Below.refl _ _).alloc (Nat.le_refl _) _
  have HS := hid hS
  clear hS
  go_enter Try.func93, Try.ntmps93
  go_wp2_with (refine wpList_alloc_eq rfl 155 rfl (ints .u8 Z8) Try.alloc155 ?_)
  generalize (w.alloc (.cells (ints .u8 Z8) 155)) = w1 at *
  go_loopw [6] (fun i wr => ∃ k : Nat, k ≤ 8 ∧ i = .int .i64 k ∧ wr.heap[w.heap.size]? = some (.cells (ints .u8 (part8 n k)) 155 (0, 0)) ∧ Below w.heap.size w wr) (fun i _ => 8 - (intOf i).toNat)
  case atStart => exact ⟨0, by omega, rfl, hb1, hB1⟩
  case round =>
    clear hb1 hB1
    obtain ⟨k, hk, rfl, hb, hB⟩ := hrel
    by_cases hk8 : k < 8
    · have hpl := part8_len n k hk
      obtain ⟨hc, hf⟩ := cells_of _ _ _ _ _ hb
      have c1 := hc k (by omega)
      have f1 := hf k
      have hset := hid (setCell_ints _ _ k .u8 _ (lenB n k) _ hb)
      have hst := hid (part8_step n k hk8)
      have hbn := hid (show lenB n k = n / 2 ^ (56 - 8 * k) % 256 from rfl)
      rw [part8_get n k hk8] at c1
      have e56 : (56 - 8 * (k : Int)).toNat = 56 - 8 * k := by omega
      have e57 : (0 : Int) ≤ 56 - 8 * (k : Int) := by omega
      clear hc hf hb
      go_wp2
      rw [← hbn.out]
      exact ⟨⟨k + 1, by omega, by go_num, by rw [hst.out]; exact hset.out, hB.setCell (by simp) _⟩, by simp [intOf]; omega⟩
    · obtain rfl : k = 8 := by omega
      rw [part8_end] at hb
      have hS := HS.out.other (hB.block B hlt)
      have hlen : (be8 n).length = 8 := lenBytes_len n 8
      have hoth : ∀ wx X, NumAt wx B pre post X → X.length = 55 → Ex B wr wx → ∀ j, j < (be8 n).length → wx.cell? ⟨w.heap.size, 0 + j, none⟩ = some (.int .u8 ((be8 n)[j]?.getD 0)) := fun wx X _ _ hx j hj => by
        have h1 := (hx.block w.heap.size (Array.getElem?_eq_some_iff.1 hb).1 (by omega)).trans hb
        rw [Nat.zero_add]
        exact (cells_of _ _ _ _ _ h1).1 j hj
      have hc := nadd_any V (be8 n) B w.heap.size 0 8 off pre post wr hV hVB (lenBytes_B n 8) (by omega) hpre hS hoth
      rw [hlen] at hc
      have Hc := hid hc
      clear hc hoth hS hb
      go_wp2_with fail
      refine Hc.out.mono ?_
      rintro e w2 ⟨rfl, hS2, hE2⟩
      go_wp2
      go_end0
      exact ⟨rfl, hS2, (Ex.of_below hB).trans hE2⟩
/-- a generator by sums: V and C in block B -/
structure SG where
  v : List Int
  c : List Int
structure SG.ok (g : SG) : Prop where
  vl : g.v.length = 55
  cl : g.c.length = 55
  vb : allB g.v
  cb : allB g.c
def SgAt (w : World) (B : Nat) (g : SG) : Prop := ∃ t, w.heap[B]? = some (.cells (g.v.map (Value.int .u8) ++ g.c.map (Value.int .u8)).toArray t (0, 0))
theorem SgAt.v {w : World} {B : Nat} {g : SG} (h : SgAt w B g) : NumAt w B [] (g.c.map (Value.int .u8)) g.v := by
  obtain ⟨t, h⟩ := h
  exact ⟨t, by rw [h]; rfl⟩
theorem SgAt.c {w : World} {B : Nat} {g : SG} (h : SgAt w B g) : NumAt w B (g.v.map (Value.int .u8)) [] g.c := by
  obtain ⟨t, h⟩ := h
  exact ⟨t, by rw [h]; simp⟩
theorem SgAt.of_v {w : World} {B : Nat} {v c : List Int} (h : NumAt w B [] (c.map (Value.int .u8)) v) : SgAt w B ⟨v, c⟩ := by
  obtain ⟨t, h⟩ := h
  exact ⟨t, by rw [h]; rfl⟩
theorem SgAt.of_c {w : World} {B : Nat} {v c : List Int} (h : NumAt w B (v.map (Value.int .u8)) [] c) : SgAt w B ⟨v, c⟩ := by
  obtain ⟨t, h⟩ := h
  exact ⟨t, by rw [h]; simp⟩
theorem SgAt.lt {w : World} {B : Nat} {g : SG} (h : SgAt w B g) : B < w.heap.size := h.v.lt
theorem SgAt.other {w w' : World} {B : Nat} {g : SG} (h : SgAt w B g) (he : w'.heap[B]? = w.heap[B]?) : SgAt w' B g := by
  obtain ⟨t, h⟩ := h
  exact ⟨t, he.trans h⟩
theorem SgAt.vSrc {w : World} {B : Nat} {g : SG} (h : SgAt w B g) (hg : g.ok) : Src w (.slice (some ⟨B, 0, none⟩) 55 55) g.v :=
  Or.inr ⟨_, 55, by rw [hg.vl], fun j u hu => by
    have hj : j < g.v.length := by simpa using (List.getElem?_eq_some_iff.1 hu).1
    have := h.v.mid j hj
    rw [Addr.add_mid]
    rw [List.length_nil] at this
    rw [this, ← hu]
    simp [List.getElem?_eq_getElem hj]⟩
theorem NumAt.there {w : World} {B : Nat} {pre post : List Value} {V : List Int} (h : NumAt w B pre post V) (hV : V.length = 55) : w.there B pre.length 55 := fun j hj => by
  refine ⟨?_, h.frozen _⟩
  rw [h.mid j (by omega)]; rfl
theorem NumAt.setCells {w : World} {B : Nat} {pre post : List Value} {V : List Int} (h : NumAt w B pre post V) (ms : List Int) (hl : ms.length = V.length) : NumAt (w.setCells B pre.length (ints .u8 ms).toList) B pre post ms := by
  obtain ⟨t, h⟩ := h
  refine ⟨t, ?_⟩
  have := setCells_block B t (ms.map (Value.int .u8)) (V.map (Value.int .u8)) pre post w (by simp [hl]) h
  simpa [ints] using this
theorem Try.alloc117 (w : World) : Sem.run Try.prog (Instr.alloc 117 true (Value.tuple #[])) w = .ok (.pointer (some ⟨w.heap.size, 0, none⟩)) (w.alloc (.cells (ints .u8 (zeros 55)) 117)) := by kernel_rfl
theorem Try.info117 : (Try.prog.info? 117).map (·.size) = some 55 := by kernel_rfl
end Go.Proofs.Ytbifmhbkmnofiaa
