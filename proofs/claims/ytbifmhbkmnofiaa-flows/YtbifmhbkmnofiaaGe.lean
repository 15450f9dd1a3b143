import Derived.Test.YtbifmhbkmnofiaaGd
import Derived.Test.YtbifmhbkmnofiaaRb
namespace Go.Proofs.Ytbifmhbkmnofiaa
open Go.RowKit
set_option linter.unusedVariables false
set_option linter.unusedSimpArgs false
def stepN (g : MG) : Nat → MG
  | 0 => g
  | k + 1 => stepG (stepN g k)
theorem stepN_ok {g : MG} (h : g.ok) : ∀ k, (stepN g k).ok
  | 0 => h
  | k + 1 => by rw [stepN]; exact stepG_ok (stepN_ok h k)
/-- rows of 32, one behind the other -/
def rows32 (f : Nat → List Int) : Nat → List Int
  | 0 => []
  | k + 1 => rows32 f k ++ f k
theorem rows32_len (f : Nat → List Int) (hf : ∀ k, (f k).length = 32) : ∀ k, (rows32 f k).length = 32 * k
  | 0 => rfl
  | k + 1 => by rw [rows32, List.length_append, rows32_len f hf k, hf k]; omega
theorem rows32_add (f : Nat → List Int) (a : Nat) : ∀ d, ∃ ys, rows32 f (a + d) = rows32 f a ++ ys
  | 0 => ⟨[], by simp⟩
  | d + 1 => by
    obtain ⟨ys, h⟩ := rows32_add f a d
    exact ⟨ys ++ f (a + d), by rw [← Nat.add_assoc, rows32, h, List.append_assoc]⟩
def outG (g : MG) (k : Nat) : List Int := rows32 (fun j => (stepN g (j + 1)).v) k
theorem stepN_vl {g : MG} (h : g.ok) (k : Nat) : (stepN g k).v.length = 32 := (stepN_ok h k).vl
def blk (n : Nat) : Nat := (n + 31) / 32
/-- n bytes of which the first k rows are written -/
def part (f : Nat → List Int) (n k : Nat) : List Int := (rows32 f k).take n ++ zeros (n - 32 * k)
theorem part_zero (f : Nat → List Int) (n : Nat) : part f n 0 = zeros n := by simp [part, rows32]
theorem part_len (f : Nat → List Int) (hf : ∀ k, (f k).length = 32) (n k : Nat) : (part f n k).length = n := by
  unfold part
  rw [List.length_append, List.length_take, rows32_len f hf, zeros_len]; omega
theorem part_end (f : Nat → List Int) (n : Nat) : part f n (blk n) = (rows32 f (blk n)).take n := by
  unfold part blk
  rw [show n - 32 * ((n + 31) / 32) = 0 by omega]; simp [zeros]
theorem part_step (f : Nat → List Int) (hf : ∀ k, (f k).length = 32) (n k : Nat) (h : 32 * k < n) (cs : List Value) (hcs : cs = ((f k).take (n - 32 * k)).map (Value.int .u8)) :
    splice ((part f n k).map (Value.int .u8)) (32 * k) cs = (part f n (k + 1)).map (Value.int .u8) := by
  subst hcs
  have hl := rows32_len f hf k
  unfold splice part
  rw [rows32, List.take_of_length_le (l := rows32 f k) (by omega), List.map_append, List.take_append_of_le_length (by simp [hl]), List.take_of_length_le (by simp [hl])]
  rw [List.drop_append]
  simp only [List.length_map, List.length_take, hl, hf]
  rw [List.drop_of_length_le (by simp [hl]), List.nil_append]
  rw [List.take_append, hl, List.take_of_length_le (l := rows32 f k) (by omega)]
  simp only [List.map_append, List.append_assoc]
  congr 2
  unfold zeros
  rw [← List.map_drop, List.drop_replicate]
  congr 2
  omega
def readG (g : MG) (xs : List Int) : MG := if xs = [] then g else stirG g xs
theorem readG_ok {g : MG} (h : g.ok) (xs : List Int) : (readG g xs).ok := by
  unfold readG
  split
  · exact h
  · exact stirG_ok h xs
def bytesM (g : MG) (n : Nat) (xs : List Int) : List Int := (outG (readG g xs) (blk n)).take n
def behindM (g : MG) (n : Nat) (xs : List Int) : MG := stirG (stepN (readG g xs) (blk n)) xs
theorem behindM_ok {g : MG} (h : g.ok) (n : Nat) (xs : List Int) : (behindM g n xs).ok := stirG_ok (stepN_ok (readG_ok h xs) _) xs
theorem bytesM_len {g : MG} (h : g.ok) (n : Nat) (xs : List Int) : (bytesM g n xs).length = n := by
  unfold bytesM outG
  rw [List.length_take, rows32_len _ (fun k => stepN_vl (readG_ok h xs) (k + 1))]
  unfold blk; omega
theorem bytesM_few {g : MG} (h : g.ok) (n m : Nat) (xs : List Int) (hnm : n ≤ m) : bytesM g n xs = (bytesM g m xs).take n := by
  unfold bytesM outG
  rw [List.take_take, Nat.min_eq_left hnm]
  have hf : ∀ k, (stepN (readG g xs) (k + 1)).v.length = 32 := fun k => stepN_vl (readG_ok h xs) (k + 1)
  have hb : blk n ≤ blk m := by unfold blk; omega
  obtain ⟨d, hd⟩ := Nat.exists_eq_add_of_le hb
  obtain ⟨ys, hy⟩ := rows32_add (fun j => (stepN (readG g xs) (j + 1)).v) (blk n) d
  rw [hd, hy, List.take_append_of_le_length]
  rw [rows32_len _ hf]; unfold blk; omega
set_option maxRecDepth 20000 in
set_option maxHeartbeats 1000000 in
theorem mread_any (g : MG) (n : Nat) (r : Int) (v : Value) (xs : List Int) (B : Nat) (w : World) (hg : g.ok) (hS : MgAt w B g) (hv : Src w v xs) (hx : xs.length ≤ 1000) (ho : Off v B) (hn : n ≤ 100000) :
    Calls Try.prog 79 #[.pointer (some ⟨B, 0, none⟩), .int .i64 n, v, .int .u64 r] w fun e w' => ∃ gb, e = .returned (.slice (some ⟨gb, 0, none⟩) n n) ∧ w.heap.size ≤ gb ∧ w'.heap[gb]? = some (.cells (ints .u8 (bytesM g n xs)) 5 (0, 0)) ∧ MgAt w' B (behindM g n xs) ∧ Ex B w w' := by
  obtain ⟨ao, cp, hve⟩ := hv.form
  rw [hve] at hv ho
  rw [hve]
  clear hve
  have HV := hid hv
  have HO := hid ho
  have hg1 := readG_ok hg xs
  have Hr := hid (show bytesM g n xs = (outG (readG g xs) (blk n)).take n from rfl)
  have Hb := hid (show behindM g n xs = stirG (stepN (readG g xs) (blk n)) xs from rfl)
  clear hv ho
  go_enter Try.func79, Try.ntmps79
  by_cases h0 : xs = []
  · subst h0
    have e1 : readG g [] = g := by unfold readG; rw [if_pos rfl]
    rw [← e1] at hS
    generalize readG g [] = g1 at *
    have hE1 := Ex.refl B w
    have hS1 := hS
    clear hS e1
    -- state: w, hS1 : MgAt w B g1, hE1 : Ex B w w, HV1 : Hd (Src w v xs)
    have hlt1 := hS1.lt
    have hz1 := hE1.size
    go_wp2_with (refine wpList_makeB rfl _ _ rfl n (by omega) rfl rfl ?_)
    have hr2 := al_new w (.cells (ints .u8 (zeros n)) 5)
    have hS2 := hS1.other (((Below.refl w.heap.size w).alloc (Nat.le_refl _) (.cells (ints .u8 (zeros n)) 5)).block B hlt1)
    have hE2 : Ex B w (w.alloc (.cells (ints .u8 (zeros n)) 5)) := hE1.trans (Ex.of_below ((Below.refl _ _).alloc (Nat.le_refl _) _))
    generalize (w.alloc (.cells (ints .u8 (zeros n)) 5)) = w2 at *
    generalize hgb : w.heap.size = gb at *
    have hgb1 : w.heap.size ≤ gb := by omega
    have hgb2 : B < gb := by omega
    clear hgb hE1 hS1 hlt1 hz1
    go_loopw [10] (fun i wr => ∃ k : Nat, k ≤ blk n ∧ i = .int .i64 ((32 * k : Nat) : Int) ∧ MgAt wr B (stepN g1 k) ∧ wr.heap[gb]? = some (.cells (ints .u8 (part (fun j => (stepN g1 (j + 1)).v) n k)) 5 (0, 0)) ∧ Ex B w wr) (fun i _ => 32 * blk n - (intOf i).toNat)
    case atStart => exact ⟨0, by omega, rfl, hS2, by rw [part_zero]; exact hr2, hE2⟩
    case round =>
      clear hS2 hr2 hE2
      obtain ⟨k, hk, rfl, hS3, hr3, hE3⟩ := hrel
      have hbn : blk n = (n + 31) / 32 := rfl
      have hbn2 : 32 * blk n ≤ n + 31 := by omega
      by_cases hlt : 32 * k < n
      · have hkb : k < blk n := by omega
        have hps := hid (part_step (fun j => (stepN g1 (j + 1)).v) (fun j => stepN_vl hg1 (j + 1)) n k hlt)
        have hpl := hid (part_len (fun j => (stepN g1 (j + 1)).v) (fun j => stepN_vl hg1 (j + 1)) n k)
        have hok := stepN_ok hg1 k
        have hok2 := stepN_ok hg1 (k + 1)
        have hlt' : ((32 * k : Nat) : Int) < n := by omega
        have hsn := hid (show stepN g1 (k + 1) = stepG (stepN g1 k) from by simp only [stepN])
        generalize stepN g1 k = gk at *
        generalize hgk1 : stepN g1 (k + 1) = gk1 at *
        have Hgk1 := hid hgk1
        generalize hP0 : part (fun j => (stepN g1 (j + 1)).v) n k = P0 at *
        generalize hP1 : part (fun j => (stepN g1 (j + 1)).v) n (k + 1) = P1 at *
        have HP1 := hid hP1
        clear hgk1 hP0 hP1
        have HS3 := hid hS3
        have Hr3 := hid hr3
        have HE3 := hid hE3
        have hglt : gb < wr.heap.size := (Array.getElem?_eq_some_iff.1 hr3).1
        clear hS3 hr3 hE3
        go_wp2_with fail
        refine (mstep_any _ B _ hok HS3.out).mono ?_
        rintro e w4 ⟨rfl, hS4, hE4⟩
        have Hr4 := hid ((hE4.block gb hglt (by omega)).trans Hr3.out)
        have HE5 := hid (HE3.out.trans hE4)
        rw [← hsn.out] at hS4
        have HS5 := hid hS4
        have hvb := hid ((hS4.vByt hok2))
        have hvk := hok2.vl
        clear hS4 HS3 Hr3 HE3 hE4 hok
        generalize hcs : (gk1.v.take (n - 32 * k)).map (Value.int .u8) = cs at *
        have hps2 := hid (hps.out cs rfl)
        have hcl : cs.length = Nat.min 32 (n - 32 * k) := by rw [← hcs, List.length_map, List.length_take, hvk]; exact Nat.min_comm _ _
        have Hfit : Hd (32 * k + cs.length ≤ (P0.map (Value.int .u8)).length) := hid (by rw [hcl, List.length_map, hpl.out]; have : Nat.min 32 (n - 32 * k) ≤ n - 32 * k := Nat.min_le_right 32 (n - 32 * k); omega)
        have Hone : Hd (∀ v ∈ cs, v.oneCell' = true) := hid (by rw [← hcs]; exact one_ints _ _)
        have Hcl := hid hcl
        have hcs' := hid hcs
        clear hcs hps hcl hpl
        have q1 : (0 : Int) ≤ 32 * (k : Int) := by omega
        have q2 : 32 * (k : Int) ≤ (n : Int) := by omega
        have q3 : (32 * (k : Int)).toNat = 32 * k := by omega
        have q4 : ¬ n = 32 * k := by omega
        go_wp2_with fail
        have Hpos : Hd (0 < cs.length → some (⟨gb, 32 * k, none⟩ : Addr) = some ⟨gb, 32 * k, none⟩ ∧ ∃ ad, some (⟨B, 32, none⟩ : Addr) = some ad ∧ ∀ j u, cs[j]? = some u → w4.drew.cell? (ad.add j) = some u) :=
          hid fun _ => ⟨rfl, _, rfl, fun j u hu => by
            rw [← hcs'.out] at hu
            have hj : j < 32 := by have := (List.getElem?_eq_some_iff.1 hu).1; rw [List.length_map, List.length_take] at this; omega
            have hu2 : (gk1.v.map (Value.int .u8))[j]? = some u := by
              rw [← hu, List.getElem?_map, List.getElem?_map, List.getElem?_take]
              have := (List.getElem?_eq_some_iff.1 hu).1
              rw [List.length_map, List.length_take] at this
              rw [if_pos (by omega)]
            rcases hvb.out.src with ⟨h1, h2⟩ | ⟨ad, cp, h2, h3⟩
            · simp at h2
            · simp only [Value.slice.injEq, Option.some.injEq] at h2
              obtain ⟨rfl, _, _⟩ := h2
              exact h3 j u hu2⟩
        clear hvb hvk hcs'
        go_region_law ((refine step_copy_splice rfl (.tmp 28) (.tmp 32) 35 35 rfl 5 Try.underlying35 Try.info5 (some ⟨gb, 32 * k, none⟩) (some ⟨B, 32, none⟩) (n - 32 * k) (n - 32 * k) 32 32 (by simp [Act.eval, Act.put]) (by simp [Act.eval, Act.put]) gb (32 * k) _ 5 Hr4.out cs Hcl.out Hpos.out Hfit.out Hone.out gb _ (Below.refl _ _) (by omega) ?_; intro w5 hg5 hb5))
        rw [hps2.out] at hg5
        have hS6 := HS5.out.other (hb5.block B hgb2)
        have hE6 : Ex B w w5 := by
          refine ⟨hb5.os.trans HE5.out.os, hb5.tape.trans HE5.out.tape, hb5.output.trans HE5.out.output, ?_, fun j hj hjB => ?_⟩
          · exact Nat.le_trans HE5.out.size hb5.size
          · exact (hb5.block j (by omega)).trans (HE5.out.block j hj hjB)
        have hg6 := hid (show w5.heap[gb]? = some (.cells (ints .u8 P1) 5 (0, 0)) from hg5)
        clear hg5 hb5 HS5 HE5 Hr4
        go_wp2
        refine ⟨⟨k + 1, by omega, by go_num, ?_, ?_, hE6⟩, by simp [intOf]; omega⟩
        · rw [Hgk1.out]; exact hS6
        · rw [HP1.out]; exact hg6.out
      · obtain rfl : k = blk n := by omega
        rw [part_end] at hr3
        have hV3 := hid (HV.out.ex hE3 HO.out)
        have hok := stepN_ok hg1 (blk n)
        rw [show rows32 (fun j => (stepN g1 (j + 1)).v) (blk n) = outG g1 (blk n) from rfl] at hr3
        rw [← Hr.out] at hr3
        have Hr3 := hid hr3
        have HE3 := hid hE3
        generalize stepN g1 (blk n) = gk at *
        clear hr3 hE3 Hr
        have hnl : ¬ ((32 * blk n : Nat) : Int) < n := by omega
        go_wp2_with fail
        refine (stir_any gk _ _ B _ hok hS3 hV3.out hx HO.out).mono ?_
        rintro e w6 ⟨rfl, hS6, hE6⟩
        have hglt : gb < wr.heap.size := (Array.getElem?_eq_some_iff.1 Hr3.out).1
        have Hr6 := hid ((hE6.block gb hglt (by omega)).trans Hr3.out)
        have HE6 := hid (HE3.out.trans hE6)
        rw [← Hb.out] at hS6
        have HS6 := hid hS6
        clear hS6 Hr3 HE3 hE6 hS3 hV3
        go_wp2
        go_ret
        exact ⟨gb, rfl, hgb1, Hr6.out, HS6.out, HE6.out⟩
  · have hp : 0 < xs.length := List.length_pos_iff.2 h0
    have hp' : (0 : Int) < xs.length := by omega
    have e1 : readG g xs = stirG g xs := by unfold readG; rw [if_neg h0]
    go_wp2_with fail
    refine (stir_any g _ xs B _ hg hS HV.out hx HO.out).mono ?_
    rintro e w1 ⟨rfl, hS1, hE1⟩
    rw [← e1] at hS1
    generalize readG g xs = g1 at *
    clear hS e1
    -- state: w1, hS1 : MgAt w1 B g1, hE1 : Ex B w w1, HV1 : Hd (Src w1 v xs)
    have hlt1 := hS1.lt
    have hz1 := hE1.size
    go_wp2_with (refine wpList_makeB rfl _ _ rfl n (by omega) rfl rfl ?_)
    have hr2 := al_new w1 (.cells (ints .u8 (zeros n)) 5)
    have hS2 := hS1.other (((Below.refl w1.heap.size w1).alloc (Nat.le_refl _) (.cells (ints .u8 (zeros n)) 5)).block B hlt1)
    have hE2 : Ex B w (w1.alloc (.cells (ints .u8 (zeros n)) 5)) := hE1.trans (Ex.of_below ((Below.refl _ _).alloc (Nat.le_refl _) _))
    generalize (w1.alloc (.cells (ints .u8 (zeros n)) 5)) = w2 at *
    generalize hgb : w1.heap.size = gb at *
    have hgb1 : w.heap.size ≤ gb := by omega
    have hgb2 : B < gb := by omega
    clear hgb hE1 hS1 hlt1 hz1
    go_loopw [10] (fun i wr => ∃ k : Nat, k ≤ blk n ∧ i = .int .i64 ((32 * k : Nat) : Int) ∧ MgAt wr B (stepN g1 k) ∧ wr.heap[gb]? = some (.cells (ints .u8 (part (fun j => (stepN g1 (j + 1)).v) n k)) 5 (0, 0)) ∧ Ex B w wr) (fun i _ => 32 * blk n - (intOf i).toNat)
    case atStart => exact ⟨0, by omega, rfl, hS2, by rw [part_zero]; exact hr2, hE2⟩
    case round =>
      clear hS2 hr2 hE2
      obtain ⟨k, hk, rfl, hS3, hr3, hE3⟩ := hrel
      have hbn : blk n = (n + 31) / 32 := rfl
      have hbn2 : 32 * blk n ≤ n + 31 := by omega
      by_cases hlt : 32 * k < n
      · have hkb : k < blk n := by omega
        have hps := hid (part_step (fun j => (stepN g1 (j + 1)).v) (fun j => stepN_vl hg1 (j + 1)) n k hlt)
        have hpl := hid (part_len (fun j => (stepN g1 (j + 1)).v) (fun j => stepN_vl hg1 (j + 1)) n k)
        have hok := stepN_ok hg1 k
        have hok2 := stepN_ok hg1 (k + 1)
        have hlt' : ((32 * k : Nat) : Int) < n := by omega
        have hsn := hid (show stepN g1 (k + 1) = stepG (stepN g1 k) from by simp only [stepN])
        generalize stepN g1 k = gk at *
        generalize hgk1 : stepN g1 (k + 1) = gk1 at *
        have Hgk1 := hid hgk1
        generalize hP0 : part (fun j => (stepN g1 (j + 1)).v) n k = P0 at *
        generalize hP1 : part (fun j => (stepN g1 (j + 1)).v) n (k + 1) = P1 at *
        have HP1 := hid hP1
        clear hgk1 hP0 hP1
        have HS3 := hid hS3
        have Hr3 := hid hr3
        have HE3 := hid hE3
        have hglt : gb < wr.heap.size := (Array.getElem?_eq_some_iff.1 hr3).1
        clear hS3 hr3 hE3
        go_wp2_with fail
        refine (mstep_any _ B _ hok HS3.out).mono ?_
        rintro e w4 ⟨rfl, hS4, hE4⟩
        have Hr4 := hid ((hE4.block gb hglt (by omega)).trans Hr3.out)
        have HE5 := hid (HE3.out.trans hE4)
        rw [← hsn.out] at hS4
        have HS5 := hid hS4
        have hvb := hid ((hS4.vByt hok2))
        have hvk := hok2.vl
        clear hS4 HS3 Hr3 HE3 hE4 hok
        generalize hcs : (gk1.v.take (n - 32 * k)).map (Value.int .u8) = cs at *
        have hps2 := hid (hps.out cs rfl)
        have hcl : cs.length = Nat.min 32 (n - 32 * k) := by rw [← hcs, List.length_map, List.length_take, hvk]; exact Nat.min_comm _ _
        have Hfit : Hd (32 * k + cs.length ≤ (P0.map (Value.int .u8)).length) := hid (by rw [hcl, List.length_map, hpl.out]; have : Nat.min 32 (n - 32 * k) ≤ n - 32 * k := Nat.min_le_right 32 (n - 32 * k); omega)
        have Hone : Hd (∀ v ∈ cs, v.oneCell' = true) := hid (by rw [← hcs]; exact one_ints _ _)
        have Hcl := hid hcl
        have hcs' := hid hcs
        clear hcs hps hcl hpl
        have q1 : (0 : Int) ≤ 32 * (k : Int) := by omega
        have q2 : 32 * (k : Int) ≤ (n : Int) := by omega
        have q3 : (32 * (k : Int)).toNat = 32 * k := by omega
        have q4 : ¬ n = 32 * k := by omega
        go_wp2_with fail
        have Hpos : Hd (0 < cs.length → some (⟨gb, 32 * k, none⟩ : Addr) = some ⟨gb, 32 * k, none⟩ ∧ ∃ ad, some (⟨B, 32, none⟩ : Addr) = some ad ∧ ∀ j u, cs[j]? = some u → w4.drew.cell? (ad.add j) = some u) :=
          hid fun _ => ⟨rfl, _, rfl, fun j u hu => by
            rw [← hcs'.out] at hu
            have hj : j < 32 := by have := (List.getElem?_eq_some_iff.1 hu).1; rw [List.length_map, List.length_take] at this; omega
            have hu2 : (gk1.v.map (Value.int .u8))[j]? = some u := by
              rw [← hu, List.getElem?_map, List.getElem?_map, List.getElem?_take]
              have := (List.getElem?_eq_some_iff.1 hu).1
              rw [List.length_map, List.length_take] at this
              rw [if_pos (by omega)]
            rcases hvb.out.src with ⟨h1, h2⟩ | ⟨ad, cp, h2, h3⟩
            · simp at h2
            · simp only [Value.slice.injEq, Option.some.injEq] at h2
              obtain ⟨rfl, _, _⟩ := h2
              exact h3 j u hu2⟩
        clear hvb hvk hcs'
        go_region_law ((refine step_copy_splice rfl (.tmp 28) (.tmp 32) 35 35 rfl 5 Try.underlying35 Try.info5 (some ⟨gb, 32 * k, none⟩) (some ⟨B, 32, none⟩) (n - 32 * k) (n - 32 * k) 32 32 (by simp [Act.eval, Act.put]) (by simp [Act.eval, Act.put]) gb (32 * k) _ 5 Hr4.out cs Hcl.out Hpos.out Hfit.out Hone.out gb _ (Below.refl _ _) (by omega) ?_; intro w5 hg5 hb5))
        rw [hps2.out] at hg5
        have hS6 := HS5.out.other (hb5.block B hgb2)
        have hE6 : Ex B w w5 := by
          refine ⟨hb5.os.trans HE5.out.os, hb5.tape.trans HE5.out.tape, hb5.output.trans HE5.out.output, ?_, fun j hj hjB => ?_⟩
          · exact Nat.le_trans HE5.out.size hb5.size
          · exact (hb5.block j (by omega)).trans (HE5.out.block j hj hjB)
        have hg6 := hid (show w5.heap[gb]? = some (.cells (ints .u8 P1) 5 (0, 0)) from hg5)
        clear hg5 hb5 HS5 HE5 Hr4
        go_wp2
        refine ⟨⟨k + 1, by omega, by go_num, ?_, ?_, hE6⟩, by simp [intOf]; omega⟩
        · rw [Hgk1.out]; exact hS6
        · rw [HP1.out]; exact hg6.out
      · obtain rfl : k = blk n := by omega
        rw [part_end] at hr3
        have hV3 := hid (HV.out.ex hE3 HO.out)
        have hok := stepN_ok hg1 (blk n)
        rw [show rows32 (fun j => (stepN g1 (j + 1)).v) (blk n) = outG g1 (blk n) from rfl] at hr3
        rw [← Hr.out] at hr3
        have Hr3 := hid hr3
        have HE3 := hid hE3
        generalize stepN g1 (blk n) = gk at *
        clear hr3 hE3 Hr
        have hnl : ¬ ((32 * blk n : Nat) : Int) < n := by omega
        go_wp2_with fail
        refine (stir_any gk _ _ B _ hok hS3 hV3.out hx HO.out).mono ?_
        rintro e w6 ⟨rfl, hS6, hE6⟩
        have hglt : gb < wr.heap.size := (Array.getElem?_eq_some_iff.1 Hr3.out).1
        have Hr6 := hid ((hE6.block gb hglt (by omega)).trans Hr3.out)
        have HE6 := hid (HE3.out.trans hE6)
        rw [← Hb.out] at hS6
        have HS6 := hid hS6
        clear hS6 Hr3 HE3 hE6 hS3 hV3
        go_wp2
        go_ret
        exact ⟨gb, rfl, hgb1, Hr6.out, HS6.out, HE6.out⟩
end Go.Proofs.Ytbifmhbkmnofiaa
