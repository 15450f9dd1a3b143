import Derived.Test.YtbifmhbkmnofiaaKb
namespace Go.Proofs.Ytbifmhbkmnofiaa
open Go.RowKit
set_option linter.unusedVariables false
set_option linter.unusedSimpArgs false
theorem bsz (a : ByteArray) : a.data.toList.length = a.size := by rw [Array.length_toList]; rfl
theorem tl_loop (a : ByteArray) : ∀ (n i : Nat) (r : List UInt8), n = a.size - i → i ≤ a.size → ByteArray.toList.loop a i r = r.reverse ++ a.data.toList.drop i := by
  intro n
  induction n with
  | zero =>
    intro i r hn hi
    rw [ByteArray.toList.loop.eq_def, if_neg (by omega), List.drop_of_length_le (by rw [bsz]; omega), List.append_nil]
  | succ n ih =>
    intro i r hn hi
    rw [ByteArray.toList.loop.eq_def, if_pos (by omega), ih (i + 1) _ (by omega) (by omega)]
    have hlt : i < a.data.toList.length := by rw [bsz]; omega
    rw [List.drop_eq_getElem_cons hlt]
    simp only [List.reverse_cons, List.append_assoc, List.singleton_append]
    congr 2
    have hlt2 : i < a.data.size := by rw [Array.length_toList] at hlt; exact hlt
    show a.data[i]! = _
    rw [getElem!_pos a.data i hlt2]; rfl
theorem tl_eq (a : ByteArray) : a.toList = a.data.toList := by
  unfold ByteArray.toList
  rw [tl_loop a _ 0 [] rfl (Nat.zero_le _)]
  simp
theorem tl_ne {a b : ByteArray} (h : a ≠ b) : (a.toList == b.toList) = false := by
  apply beq_eq_false_iff_ne.2
  intro he
  rw [tl_eq, tl_eq] at he
  apply h
  cases a; cases b
  simp at he
  simp [he]
theorem bts0 : bts ⟨#[]⟩ = [] := rfl
theorem toS_ne {a b : List Int} (x y : Int) (ha : a[0]? = some x) (hb : b[0]? = some y) (h : UInt8.ofNat x.toNat ≠ UInt8.ofNat y.toNat) : toS a ≠ toS b := by
  intro he
  have h1 : (toS a).data[0]? = (toS b).data[0]? := by rw [he]
  simp only [toS, List.getElem?_toArray, List.getElem?_map, ha, hb, Option.map_some, Option.some.injEq] at h1
  exact h h1
set_option maxRecDepth 20000 in
set_option maxHeartbeats 1000000 in
theorem begun_any (w : World) : Calls Try.prog 19 #[] w fun e w' => e = .returned (.bool true) ∧ Below w.heap.size w w' := by
  go_enter Try.func19, Try.ntmps19
  go_wp2_with fail
  refine (published_any w).mono ?_
  rintro e w1 ⟨rfl, hB1⟩
  go_wp2_with fail
  refine (new_any 1 dgts ⟨#[]⟩ ⟨#[]⟩ _ (Or.inl rfl) (by decide) (by decide) (by decide)).mono ?_
  rintro e w2 ⟨A1, B1, rfl, hA1, hG1, hF1, hB2⟩
  have hC2 := hB1.trans (hB2.mono hB1.size)
  have hz1 := hB1.size
  clear hB1 hB2
  go_wp2_with fail
  refine (new_any 2 dgts ⟨#[]⟩ ⟨#[]⟩ _ (Or.inr rfl) (by decide) (by decide) (by decide)).mono ?_
  rintro e w3 ⟨A2, B2, rfl, hA2, hG2, hF2, hB3⟩
  have hC3 := hC2.trans (hB3.mono hC2.size)
  have hF1' := hF1.below hB3
  have hlA1 := hF1.lt
  have hlB1 := hF1.gen.lt
  have hz2 := hC2.size
  clear hC2 hB3 hF1
  simp only [bts0, List.append_nil] at hF1' hF2
  have HC3 := hid hC3
  have HF1 := hid hF1'
  have HF2 := hid hF2
  clear hC3 hF1' hF2
  go_wp2_with fail
  refine (read_any _ 40 ⟨#[]⟩ A1 B1 _ HF1.out (by decide) (by omega) (by decide)).mono ?_
  rintro e w4 ⟨gb, rfl, hgb, hr4, _, hE4⟩
  have hz3 := HC3.out.size
  have hC4 := HC3.out.trans (hE4.below (N := w.heap.size) (by omega) (by omega) hz3)
  have hlA2 := HF2.out.lt
  have hlB2 := HF2.out.gen.lt
  have hF4 := HF2.out.other (hE4.block A2 hlA2 (by omega) (by omega)) (hE4.block B2 hlB2 (by omega) (by omega))
  have HC4 := hid hC4
  have HF4 := hid hF4
  have Hr4 := hid hr4
  have hz4 := hE4.size
  clear hC4 hF4 hr4 hE4 HC3 HF1 HF2
  go_wp2_with fail
  refine (read_any _ 40 ⟨#[]⟩ A2 B2 _ HF4.out (by decide) (by omega) (by decide)).mono ?_
  rintro e w5 ⟨gb2, rfl, hgb2, hr5, _, hE5⟩
  have hC5 := hid (HC4.out.trans (hE5.below (N := w.heap.size) (by omega) (by omega) (by omega)))
  have hlg : gb < w4.heap.size := (Array.getElem?_eq_some_iff.1 Hr4.out).1
  have Hr5 := hid ((hE5.block gb hlg (by omega) (by omega)).trans Hr4.out)
  rw [bts0] at hr5 Hr5
  have s1 : bytesF (seedOf 1 (bts dgts)) 40 [] = bytesM (seedG (bts dgts)) 40 [] := rfl
  have s2 : bytesF (seedOf 2 (bts dgts)) 40 [] = bytesS (beginS (bts dgts)) 40 [] := rfl
  dsimp only at hr5 Hr5
  rw [s2] at hr5
  rw [s1] at Hr5
  have l1 := bytesM_len (seedG_ok (bts dgts)) 40 []
  have l2 := bytesS_len (beginS (bts dgts)) 40 []
  have hne := hid (toS_ne 68 218 head_m head_s (by decide))
  generalize bytesM (seedG (bts dgts)) 40 [] = b1 at *
  generalize bytesS (beginS (bts dgts)) 40 [] = b2 at *
  have Y1 : Hd (Byt w5 (.slice (some ⟨gb, 0, none⟩) 40 40) b1) := hid (by have := byt_block Hr5.out 40; rw [l1] at this; exact this)
  have Y2 : Hd (Byt w5 (.slice (some ⟨gb2, 0, none⟩) 40 40) b2) := hid (by have := byt_block hr5 40; rw [l2] at this; exact this)
  clear Hr5 hr5 Hr4 hE5 HF4 HC4 s1 s2
  have E1 := run_str Y1.out
  have E2 := run_str Y2.out
  have hneb := tl_ne hne.out
  clear Y1 Y2 hne
  generalize toS b1 = t1 at *
  generalize toS b2 = t2 at *
  go_wp2
  go_ret
  exact ⟨rfl, hC5.out⟩
end Go.Proofs.Ytbifmhbkmnofiaa
