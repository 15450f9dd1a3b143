import Derived.Test.YtbifmhbkmnofiaaYa
namespace Go.Proofs.Ytbifmhbkmnofiaa
open Go.RowKit
set_option linter.unusedVariables false
set_option linter.unusedSimpArgs false
/-- a draw, whatever it answers -/
theorem wdraw_gen (n : Nat) (ex : ByteArray) (N A : Nat) (bs : List Nat) (x : Wel) (w : World) (h : WellAt w N A bs x) (hok : x.ok) (hx : ex.size ≤ 64) (hn : n ≤ 200) :
    Calls Try.prog 35 #[.pointer (some ⟨A, 0, none⟩), .int .i64 n, .string ex] w fun en w' => (∃ v er, en = .returned (.tuple #[v, .int .i64 er])) ∧ ∃ bs' x', WellAt w' N A bs' x' ∧ x'.ok ∧ Turns w w' bs bs' := by
  cases hb : x.g.br with
  | true =>
    refine (wdraw_dead n ex N A bs x w h hb hx hn).mono ?_
    rintro en w' ⟨rfl, rfl⟩
    exact ⟨⟨_, _, rfl⟩, bs, x, h, hok, Turns.refl _ _⟩
  | false =>
    by_cases hs : needs x = true ∧ x.kept.length < 32
    · refine (wdraw_little n ex N A bs x w h hb hx hn hs.1 hs.2).mono ?_
      rintro en w' ⟨rfl, rfl⟩
      exact ⟨⟨_, _, rfl⟩, bs, x, h, hok, Turns.refl _ _⟩
    · refine (wdraw_any n ex N A bs x _ w h hok hb hx hn (fun hh => by have : ¬ x.kept.length < 32 := fun h2 => hs ⟨hh, h2⟩; omega) rfl).mono ?_
      rintro en w' ⟨gb, rfl, _, _, bs', hW, hT⟩
      refine ⟨⟨_, _, rfl⟩, bs', _, hW, ⟨hok.k, hok.nm, hok.g, ?_⟩, hT⟩
      dsimp only
      split
      · simp
      · exact hok.kept
theorem takeW_same {st wi sk b : Int} : ∀ (n : Nat) {x y : WS} {k : Nat}, 0 ≤ x.t → takeW st wi sk x (List.replicate n b) k = (y, none) → x.s = b → x.t + n ≤ y.t
  | 0, x, y, k, _, h, _ => by
    simp [takeW] at h
    rw [← h]; simp
  | n + 1, x, y, k, ht, h, hs => by
    rw [List.replicate_succ, takeW] at h
    split at h
    · simp at h
    · split at h
      · simp at h
      · have hr : runW x b = ⟨x.s, x.t + 1, x.f, x.n, x.c⟩ := by unfold runW; rw [if_pos hs.symm]
        have hw : (winW (runW x b) b wi).t = x.t + 1 ∧ (winW (runW x b) b wi).s = b := by
          rw [hr]
          unfold winW
          dsimp only
          refine ⟨?_, ?_⟩
          · split <;> split <;> rfl
          · split <;> split <;> exact hs
        have := takeW_same n (by rw [hw.1]; omega) h hw.2
        rw [hw.1] at this
        push_cast
        omega
theorem fed_same {g : Gd} (h : g.ok) (b : Int) : (fedG g (List.replicate 50 b)).2.1 ≠ 0 ∧ (fedG g (List.replicate 50 b)).2.2.br = true := by
  rcases (fedG_form h (List.replicate 50 b)).2 with ⟨he, hbr, _⟩ | ⟨he, hbr⟩
  · exfalso
    rcases hT : takeW g.st g.wi g.sk g.x (List.replicate 50 b) 0 with ⟨y, _ | ⟨q, k⟩⟩
    · have hy := takeW_ok h.l.2.2.1 h.x hT
      have hT2 := hT
      rw [show List.replicate 50 b = b :: List.replicate 49 b from rfl, takeW] at hT2
      split at hT2
      · simp at hT2
      · split at hT2
        · simp at hT2
        · have hrt := runW_t g.x b h.x.t0
          have hrs : (runW g.x b).s = b := by unfold runW; split <;> simp_all
          have hw : (winW (runW g.x b) b g.wi).t = (runW g.x b).t ∧ (winW (runW g.x b) b g.wi).s = b := by
            unfold winW
            dsimp only
            refine ⟨?_, ?_⟩
            · split <;> split <;> rfl
            · split <;> split <;> exact hrs
          have := takeW_same 49 (by rw [hw.1]; omega) hT2 hw.2
          rw [hw.1] at this
          have h1 := hy.t1
          have h2 := h.l.2.1
          omega
    · have e : (fedG g (List.replicate 50 b)).2.1 ≠ 0 := by
        unfold fedG
        rw [hT]
        cases q
        · exact (by decide : (4 : Int) ≠ 0)
        · exact (by decide : (5 : Int) ≠ 0)
      exact e he
  · exact ⟨by omega, hbr⟩
theorem pour_same {x : Wel} (h : x.ok) (b : Int) : (pourW x (List.replicate 50 b)).2.1 ≠ 0 ∧ (pourW x (List.replicate 50 b)).2.2.g.br = true ∧ (pourW x (List.replicate 50 b)).2.2.kept = [] := by
  cases hb : x.g.br with
  | true => rw [pourW_dead hb]; exact ⟨(by decide : (6 : Int) ≠ 0), hb, rfl⟩
  | false =>
    rw [pourW_take hb (by rw [List.length_replicate]; decide)]
    have := fed_same h.g b
    refine ⟨this.1, this.2, ?_⟩
    dsimp only
    rw [if_neg this.1]
def Z50 : List Int := List.replicate 50 0
theorem Try.make50 (w : World) : Sem.run Try.prog (Instr.makeSlice 35 (Value.int IntKind.i64 50) (Value.int IntKind.i64 50)) w = .ok (.slice (some ⟨w.heap.size, 0, none⟩) 50 50) (w.alloc (.cells (ints .u8 Z50) 5)) := by kernel_rfl
theorem wpList_make50 {ops : Array Oper} {rest : List Oper} {o : Oper} {a : Act} {w : World} {Q : Exit → Act → World → Prop} (hgd : o.guard = none) (ho : o.op = .makeSlice 35 (.const (.int .i64 50)) (.const (.int .i64 50)))
    (h : wpList Try.prog ops Q rest (a.put o.dst (.slice (some ⟨w.heap.size, 0, none⟩) 50 50)) (w.alloc (.cells (ints .u8 Z50) 5))) : wpList Try.prog ops Q (o :: rest) a w :=
  wpList_plain hgd fun _ hK => by
    unfold Oper.wp execOp
    simp only [ho, Sem.run_bind, Act.eval, Try.make50, Result.andThen_ok, Sem.run_pure]
    exact hK _ _ h
def part50 (b : Int) (k : Nat) : List Int := List.replicate k b ++ List.replicate (50 - k) 0
theorem part50_len (b : Int) (k : Nat) (h : k ≤ 50) : (part50 b k).length = 50 := by simp [part50]; omega
theorem part50_step (b : Int) (k : Nat) (h : k < 50) : part50 b (k + 1) = (part50 b k).set k b := by
  unfold part50
  rw [List.set_append_right _ _ (by simp), List.length_replicate, Nat.sub_self]
  have h1 : 50 - k = (50 - (k + 1)) + 1 := by omega
  have h2 : List.replicate (50 - k) (0 : Int) = 0 :: List.replicate (50 - (k + 1)) 0 := by rw [h1]; rfl
  rw [h2, List.set_cons_zero, show List.replicate (k + 1) b = List.replicate k b ++ [b] from List.replicate_succ', List.append_assoc]; rfl
theorem part50_end (b : Int) : part50 b 50 = List.replicate 50 b := by simp [part50]
set_option maxRecDepth 20000 in
set_option maxHeartbeats 2000000 in
theorem dead_any (kind a b c which n : Int) (vs : Value) (ss : List ByteArray) (w : World) (hv : SlV w vs (ss.map Value.string)) (hs : ∀ s ∈ ss, s.size ≤ 9223372036854775807) (hl : ss.length ≤ 9223372036854775807)
    (hk : -9223372036854775808 ≤ kind) (hk' : kind ≤ 9223372036854775807) (ha : -9223372036854775808 ≤ a) (ha' : a ≤ 9223372036854775807) (hb : -9223372036854775808 ≤ b) (hb' : b ≤ 9223372036854775807) (hc : -9223372036854775808 ≤ c) (hc' : c ≤ 9223372036854775807) (hw : -9223372036854775808 ≤ which) (hw' : which ≤ 9223372036854775807) (hn : -9223372036854775808 ≤ n) (hn' : n ≤ 9223372036854775807) :
    Calls Try.prog 10 #[.int .i64 kind, .int .i64 a, .int .i64 b, .int .i64 c, vs, .int .i64 which, .int .i64 n] w fun e w' => e = .returned (.bool true) ∧ Below w.heap.size w w' := by
  obtain ⟨av, capv, rfl, hc0⟩ := hv
  rw [List.length_map] at hc0
  rw [List.length_map]
  have Hc := hid hc0
  have Hs := hid hs
  clear hc0 hs
  obtain ⟨p0, p1⟩ := pickI_bd kind 2 (by decide)
  obtain ⟨n0, n1⟩ := pickI_bd n 20 (by decide)
  obtain ⟨q0, q1⟩ := pickI_bd a 49 (by decide)
  obtain ⟨r0, r1⟩ := pickI_bd b 49 (by decide)
  obtain ⟨s0, s1⟩ := pickI_bd c (2 + pickI b 49 - 1) (by omega)
  have hlim : 2 ≤ 2 + pickI a 49 ∧ 2 + pickI a 49 ≤ 50 ∧ 2 ≤ 2 + pickI b 49 ∧ 2 + pickI b 49 ≤ 50 ∧ 2 ≤ 2 + pickI c (2 + pickI b 49 - 1) ∧ 2 + pickI c (2 + pickI b 49 - 1) ≤ 2 + pickI b 49 := by omega
  clear q0 q1 r0 r1 s0 s1
  go_enter Try.func10, Try.ntmps10
  go_wp2_with fail
  refine (flowed_any _).mono ?_
  rintro e w1 ⟨rfl, hB1⟩
  have HB1 := hid hB1
  clear hB1
  go_wp2_with fail
  refine (pick_any kind 2 _ hk hk' (by decide) (by decide)).mono ?_
  rintro e w2 ⟨rfl, hw2⟩
  have hw3 := hw2.symm
  subst hw3
  clear hw2
  generalize pickI kind 2 = pk at *
  go_wp2_with fail
  refine (kwatch_any a b c _ ha ha' hb hb' hc hc').mono ?_
  rintro e w3 ⟨rfl, hB3⟩
  have HB3 := hid (HB1.out.trans (hB3.mono HB1.out.size))
  clear hB3 HB1
  generalize 2 + pickI c (2 + pickI b 49 - 1) = sk at *
  generalize 2 + pickI b 49 = wi at *
  generalize 2 + pickI a 49 = st at *
  go_wp2_with fail
  refine (open_yes (1 + pk) st wi sk ⟨#[]⟩ w.heap.size _ (by omega) hlim (by decide) HB3.out.size).mono ?_
  rintro e w4 ⟨A, rfl, hA, hW4, hB4⟩
  have HB4 := hid (HB3.out.trans (hB4.mono HB3.out.size))
  have hok : (⟨1 + pk, ⟨#[]⟩, ⟨st, wi, sk, W0, false⟩, [], none⟩ : Wel).ok := ⟨by show 1 + pk = 1 ∨ 1 + pk = 2; omega, by show (⟨#[]⟩ : ByteArray).size ≤ 64; decide, Gd.ok_new hlim false, by simp⟩
  have hA0 : w.heap.size ≤ A := Nat.le_trans HB3.out.size hA
  have HI : Hd (∃ bs x, WellAt w4 w.heap.size A bs x ∧ x.ok ∧ Below w.heap.size w w4) := hid ⟨_, _, hW4, hok, HB4.out⟩
  clear hW4 hB4 hok HB3 HB4 hA
  go_wp2
  go_loopw [18] (fun i wr => ∃ k : Nat, k ≤ ss.length ∧ i = .int .i64 k ∧ ∃ bs x, WellAt wr w.heap.size A bs x ∧ x.ok ∧ Below w.heap.size w wr) (fun i _ => ss.length - (intOf i).toNat)
  case atStart => exact ⟨0, by omega, rfl, HI.out⟩
  case round =>
    clear HI
    obtain ⟨k, hk0, rfl, bs, x, hWx, hok, hBx⟩ := hrel
    have hgo : k < ss.length ∧ k < 8 ∨ ¬ (k < ss.length ∧ k < 8) := by omega
    rcases hgo with ⟨hlt1, hlt2⟩ | hno
    · obtain ⟨db, off, rfl, hcc⟩ := Hc.out (by omega)
      have c0 := hcc k (.string ss[k]) (by simp [List.getElem?_eq_getElem hlt1])
      have c1 : wr.cell? ⟨db, off + k, none⟩ = some (.string ss[k]) := by rw [hBx.cell (World.block_lt_of_cell? w _ c0)]; exact c0
      have hsz := Hs.out ss[k] (List.getElem_mem hlt1)
      generalize ss[k] = sk0 at *
      have hlt1' : (k : Int) < ss.length := by omega
      have hlt2' : (k : Int) < 8 := by omega
      have HW := hid hWx
      have HWr := hid hWx
      have HB := hid hBx
      have Hok := hid hok
      have hzr := hBx.size
      have hAl : A < wr.heap.size := by obtain ⟨_, _, h⟩ := hWx; exact (h.lo A h.mem).2
      clear hWx hBx hok hcc c0
      go_wp2_with fail
      refine (short_any sk0 200 _ (by omega) hsz).mono ?_
      rintro e w2 ⟨rfl, hw2⟩
      have hw3 := hw2.symm
      subst hw3
      clear hw2
      have hcs := (cut_size sk0 200).1
      clear hsz c1
      generalize cut sk0 200 = tx at *
      go_wp2_with (refine wpList_bytes rfl _ rfl tx rfl ?_; intro w2 cap2 hB2 hz2 hb2)
      have hW2 := HW.out.below hB2
      refine (wfeed_any w.heap.size A bs x _ (bts tx) w2 hW2 Hok.out hb2.out.src (fun ad n c h _ => by simp at h; rw [← h.1]; simp; omega) (by omega)).mono ?_
      have hok3 := pourW_ok Hok.out (bts tx)
      generalize pourW x (bts tx) = r at *
      obtain ⟨rm, re, x3⟩ := r
      dsimp only at hok3 ⊢
      rintro e w3 ⟨rfl, bs3, hW3, hT3⟩
      have HT3 := hid ((Turns.of_below bs hB2).trans hT3)
      have HW3 := hid hW3
      clear hW2 hB2 hb2 hW3 hT3 HW
      go_wp2_with fail
      refine (pick_any n 20 _ hn hn' (by decide) (by decide)).mono ?_
      rintro e w4' ⟨rfl, hw4⟩
      have hw5 := hw4.symm
      subst hw5
      clear hw4
      obtain ⟨m, hm⟩ : ∃ m : Nat, pickI n 20 = (m : Int) := ⟨(pickI n 20).toNat, by omega⟩
      rw [hm] at n0 n1 ⊢
      go_wp2_with fail
      refine (wdraw_gen m ⟨#[]⟩ w.heap.size A bs3 x3 w3 HW3.out hok3 (by decide) (by omega)).mono ?_
      rintro e w6 ⟨⟨v6, e6, rfl⟩, bs6, x6, hW6, hok6, hT6⟩
      have hBB : Below w.heap.size w w6 := by
        have h1 := HT3.out.trans hT6
        have h2 : ∀ b ∈ bs, w.heap.size ≤ b := fun b hb => by obtain ⟨_, _, h⟩ := HWr.out; exact (h.lo b hb).1
        exact HB.out.trans (h1.below h2 hzr)
      go_wp2
      exact ⟨⟨k + 1, by omega, by go_num, bs6, x6, hW6, hok6, hBB⟩, by simp [intOf]; omega⟩
    · by_cases hlt1 : k < ss.length
      · have hlt1' : (k : Int) < ss.length := by omega
        have hlt2' : ¬ (k : Int) < 8 := by omega
        go_wp2_with (refine wpList_make50 rfl rfl ?_)
        have hS0 := al_new wr (.cells (ints .u8 Z50) 5)
        have hBx2 := hBx.alloc hBx.size (.cells (ints .u8 Z50) 5)
        have hWx2 := hWx.below ((Below.refl _ _).alloc (Nat.le_refl _) (.cells (ints .u8 Z50) 5))
        have hSA : wr.heap.size ∉ bs := fun hm => by obtain ⟨_, _, h⟩ := hWx; have := (h.lo _ hm).2; omega
        have hSN := hBx.size
        clear hWx hBx
        generalize (wr.alloc (.cells (ints .u8 Z50) 5)) = w5 at *
        generalize wr.heap.size = S at *
        obtain ⟨by8, hby8⟩ : ∃ z, z = IntKind.u8.wrap which := ⟨_, rfl⟩
        have HL : Hd (∃ k : Nat, k ≤ 50 ∧ Value.int .i64 0 = .int .i64 k ∧ w5.heap[S]? = some (.cells (ints .u8 (part50 by8 k)) 5 (0, 0)) ∧ WellAt w5 w.heap.size A bs x ∧ Below w.heap.size w w5) := hid ⟨0, by omega, rfl, hS0, hWx2, hBx2⟩
        clear hS0 hWx2 hBx2
        go_loopw [20] (fun i wr2 => ∃ k : Nat, k ≤ 50 ∧ i = .int .i64 k ∧ wr2.heap[S]? = some (.cells (ints .u8 (part50 by8 k)) 5 (0, 0)) ∧ WellAt wr2 w.heap.size A bs x ∧ Below w.heap.size w wr2) (fun i _ => 50 - (intOf i).toNat)
        case atStart => exact HL.out
        case round =>
          clear HL
          obtain ⟨k2, hk2, rfl, hS, hWy, hBy⟩ := hrel
          by_cases hq : k2 < 50
          · have hl2 := part50_len by8 k2 hk2
            have hst := hid (part50_step by8 k2 hq)
            have cD := (cells_of _ _ _ _ _ hS).1 k2 (by omega)
            have fD := (cells_of _ _ _ _ _ hS).2 k2
            have HS := hid hS
            have HW := hid hWy
            have HB := hid hBy
            have hq' : (k2 : Int) < 50 := by omega
            clear hS hWy hBy
            generalize part50 by8 k2 = pl at *
            have Hby := hid hby8
            clear hby8
            go_wp2
            refine ⟨⟨k2 + 1, by omega, by go_num, ?_, ?_, ?_⟩, by simp [intOf]; omega⟩
            · rw [hst.out, Hby.out]
              exact setCell_ints _ _ _ _ _ _ _ HS.out
            · exact HW.out.other (by simp) (fun b hb => Below.heap_setCell _ _ _ _ (fun e => hSA (by have e' : b = S := e; rw [← e']; exact hb)))
            · exact HB.out.setCell (by simpa using hSN) _
          · obtain rfl : k2 = 50 := by omega
            rw [part50_end] at hS
            have hby : Byt wr (.slice (some ⟨S, 0, none⟩) 50 50) (List.replicate 50 by8) := Byt.row hS 50 50 (by simp)
            have hSA2 : S ≠ A := fun e => hSA (by obtain ⟨_, _, h⟩ := hWy; rw [e]; exact h.mem)
            have F := hid (wfeed_any w.heap.size A bs x _ (List.replicate 50 by8) wr hWy hok hby.src (fun ad n c h _ => by simp at h; rw [← h.1]; exact hSA2) hBy.size)
            have hsame := pour_same hok by8
            have hok3 := pourW_ok hok (List.replicate 50 by8)
            have hbs : ∀ b ∈ bs, w.heap.size ≤ b := fun b hb => by obtain ⟨_, _, h⟩ := hWy; exact (h.lo b hb).1
            have HB := hid hBy
            clear hby hS hWy hBy hby8
            generalize pourW x (List.replicate 50 by8) = r at *
            obtain ⟨rm, re, x3⟩ := r
            dsimp only at hok3 hsame F
            obtain ⟨hre, hbr3, hkp3⟩ := hsame
            go_wp2_with fail
            refine F.out.mono ?_
            rintro e w6 ⟨rfl, bs6, hW6, hT6⟩
            have HW6 := hid hW6
            have HT6 := hid hT6
            clear hW6 hT6 F
            go_wp2_with fail
            refine (pick_any n 20 _ hn hn' (by decide) (by decide)).mono ?_
            rintro e w7 ⟨rfl, hw7⟩
            have hw8 := hw7.symm
            subst hw8
            clear hw7
            obtain ⟨m, hm⟩ : ∃ m : Nat, pickI n 20 = (m : Int) := ⟨(pickI n 20).toNat, by omega⟩
            rw [hm] at n0 n1 ⊢
            go_wp2_with fail
            refine (wdraw_dead m ⟨#[]⟩ w.heap.size A bs6 x3 w6 HW6.out hbr3 (by decide) (by omega)).mono ?_
            rintro e w7 ⟨rfl, hw7⟩
            have hw8 := hw7.symm
            subst hw8
            clear hw7
            go_wp2_with fail
            refine (samples_any w.heap.size A bs6 x3 w6 HW6.out).mono ?_
            rintro e w7 ⟨rfl, hw7⟩
            have hw8 := hw7.symm
            subst hw8
            clear hw7
            rw [hkp3]
            have hl0 : ((([] : List Int).length : Nat) : Int) = 0 := rfl
            rw [hl0]
            clear hl0
            have kc := fun (w : World) (C : Array Value) (n c : Nat) => Lib.run_convert_bytes_const (P := Try.prog) w 35 5 C n c Try.underlying35 Try.underlying5
            have HBy2 : Hd (Byt (w6.alloc (.cells #[.int .u8 97, .int .u8 98, .int .u8 99] 5 (3, 4))) (.slice (some ⟨w6.heap.size, 0, none⟩) 3 3) [97, 98, 99]) := hid (Byt.row (al_new w6 (.cells #[.int .u8 97, .int .u8 98, .int .u8 99] 5 (3, 4))) 3 3 rfl)
            have HBx2 : Hd (Below w6.heap.size w6 (w6.alloc (.cells #[.int .u8 97, .int .u8 98, .int .u8 99] 5 (3, 4)))) := hid ((Below.refl _ _).alloc (Nat.le_refl _) _)
            go_wp2_with fail
            generalize (w6.alloc (.cells #[.int .u8 97, .int .u8 98, .int .u8 99] 5 (3, 4))) = w8 at *
            have hW8 := HW6.out.below HBx2.out
            have hA6 : A < w6.heap.size := by obtain ⟨_, _, h⟩ := HW6.out; exact (h.lo A h.mem).2
            have hz8 : w.heap.size ≤ w8.heap.size := Nat.le_trans (Nat.le_trans HB.out.size HT6.out.fr.size) HBx2.out.size
            refine (wfeed_any w.heap.size A bs6 x3 _ [97, 98, 99] w8 hW8 hok3 HBy2.out.src (fun ad n c h _ => by simp at h; rw [← h.1]; simp; omega) hz8).mono ?_
            have hok9 := pourW_dead hbr3 [97, 98, 99]
            rw [hok9]
            rintro e w9 ⟨rfl, bs9, hW9, hT9⟩
            dsimp only at hW9 ⊢
            have HW9 := hid hW9
            have HT9 := hid ((HT6.out.trans (Turns.of_below bs6 HBx2.out)).trans hT9)
            clear hW9 hT9 hW8 hok9 HBy2 HBx2 kc HW6 HT6
            go_wp2_with fail
            refine (wdraw_dead 0 ⟨#[]⟩ w.heap.size A bs9 _ w9 HW9.out hbr3 (by decide) (by decide)).mono ?_
            rintro e w10 ⟨rfl, hw7⟩
            have hw8 := hw7.symm
            subst hw8
            clear hw7
            go_wp2
            go_ret
            exact ⟨by show Ending.returned (Value.bool (re != 0)) = Ending.returned (Value.bool true); rw [show (re != 0) = true from by simpa using hre], HB.out.trans (HT9.out.below hbs HB.out.size)⟩
      · have hlt1' : ¬ (k : Int) < ss.length := by omega
        go_wp2_with (refine wpList_make50 rfl rfl ?_)
        have hS0 := al_new wr (.cells (ints .u8 Z50) 5)
        have hBx2 := hBx.alloc hBx.size (.cells (ints .u8 Z50) 5)
        have hWx2 := hWx.below ((Below.refl _ _).alloc (Nat.le_refl _) (.cells (ints .u8 Z50) 5))
        have hSA : wr.heap.size ∉ bs := fun hm => by obtain ⟨_, _, h⟩ := hWx; have := (h.lo _ hm).2; omega
        have hSN := hBx.size
        clear hWx hBx
        generalize (wr.alloc (.cells (ints .u8 Z50) 5)) = w5 at *
        generalize wr.heap.size = S at *
        obtain ⟨by8, hby8⟩ : ∃ z, z = IntKind.u8.wrap which := ⟨_, rfl⟩
        have HL : Hd (∃ k : Nat, k ≤ 50 ∧ Value.int .i64 0 = .int .i64 k ∧ w5.heap[S]? = some (.cells (ints .u8 (part50 by8 k)) 5 (0, 0)) ∧ WellAt w5 w.heap.size A bs x ∧ Below w.heap.size w w5) := hid ⟨0, by omega, rfl, hS0, hWx2, hBx2⟩
        clear hS0 hWx2 hBx2
        go_loopw [20] (fun i wr2 => ∃ k : Nat, k ≤ 50 ∧ i = .int .i64 k ∧ wr2.heap[S]? = some (.cells (ints .u8 (part50 by8 k)) 5 (0, 0)) ∧ WellAt wr2 w.heap.size A bs x ∧ Below w.heap.size w wr2) (fun i _ => 50 - (intOf i).toNat)
        case atStart => exact HL.out
        case round =>
          clear HL
          obtain ⟨k2, hk2, rfl, hS, hWy, hBy⟩ := hrel
          by_cases hq : k2 < 50
          · have hl2 := part50_len by8 k2 hk2
            have hst := hid (part50_step by8 k2 hq)
            have cD := (cells_of _ _ _ _ _ hS).1 k2 (by omega)
            have fD := (cells_of _ _ _ _ _ hS).2 k2
            have HS := hid hS
            have HW := hid hWy
            have HB := hid hBy
            have hq' : (k2 : Int) < 50 := by omega
            clear hS hWy hBy
            generalize part50 by8 k2 = pl at *
            have Hby := hid hby8
            clear hby8
            go_wp2
            refine ⟨⟨k2 + 1, by omega, by go_num, ?_, ?_, ?_⟩, by simp [intOf]; omega⟩
            · rw [hst.out, Hby.out]
              exact setCell_ints _ _ _ _ _ _ _ HS.out
            · exact HW.out.other (by simp) (fun b hb => Below.heap_setCell _ _ _ _ (fun e => hSA (by have e' : b = S := e; rw [← e']; exact hb)))
            · exact HB.out.setCell (by simpa using hSN) _
          · obtain rfl : k2 = 50 := by omega
            rw [part50_end] at hS
            have hby : Byt wr (.slice (some ⟨S, 0, none⟩) 50 50) (List.replicate 50 by8) := Byt.row hS 50 50 (by simp)
            have hSA2 : S ≠ A := fun e => hSA (by obtain ⟨_, _, h⟩ := hWy; rw [e]; exact h.mem)
            have F := hid (wfeed_any w.heap.size A bs x _ (List.replicate 50 by8) wr hWy hok hby.src (fun ad n c h _ => by simp at h; rw [← h.1]; exact hSA2) hBy.size)
            have hsame := pour_same hok by8
            have hok3 := pourW_ok hok (List.replicate 50 by8)
            have hbs : ∀ b ∈ bs, w.heap.size ≤ b := fun b hb => by obtain ⟨_, _, h⟩ := hWy; exact (h.lo b hb).1
            have HB := hid hBy
            clear hby hS hWy hBy hby8
            generalize pourW x (List.replicate 50 by8) = r at *
            obtain ⟨rm, re, x3⟩ := r
            dsimp only at hok3 hsame F
            obtain ⟨hre, hbr3, hkp3⟩ := hsame
            go_wp2_with fail
            refine F.out.mono ?_
            rintro e w6 ⟨rfl, bs6, hW6, hT6⟩
            have HW6 := hid hW6
            have HT6 := hid hT6
            clear hW6 hT6 F
            go_wp2_with fail
            refine (pick_any n 20 _ hn hn' (by decide) (by decide)).mono ?_
            rintro e w7 ⟨rfl, hw7⟩
            have hw8 := hw7.symm
            subst hw8
            clear hw7
            obtain ⟨m, hm⟩ : ∃ m : Nat, pickI n 20 = (m : Int) := ⟨(pickI n 20).toNat, by omega⟩
            rw [hm] at n0 n1 ⊢
            go_wp2_with fail
            refine (wdraw_dead m ⟨#[]⟩ w.heap.size A bs6 x3 w6 HW6.out hbr3 (by decide) (by omega)).mono ?_
            rintro e w7 ⟨rfl, hw7⟩
            have hw8 := hw7.symm
            subst hw8
            clear hw7
            go_wp2_with fail
            refine (samples_any w.heap.size A bs6 x3 w6 HW6.out).mono ?_
            rintro e w7 ⟨rfl, hw7⟩
            have hw8 := hw7.symm
            subst hw8
            clear hw7
            rw [hkp3]
            have hl0 : ((([] : List Int).length : Nat) : Int) = 0 := rfl
            rw [hl0]
            clear hl0
            have kc := fun (w : World) (C : Array Value) (n c : Nat) => Lib.run_convert_bytes_const (P := Try.prog) w 35 5 C n c Try.underlying35 Try.underlying5
            have HBy2 : Hd (Byt (w6.alloc (.cells #[.int .u8 97, .int .u8 98, .int .u8 99] 5 (3, 4))) (.slice (some ⟨w6.heap.size, 0, none⟩) 3 3) [97, 98, 99]) := hid (Byt.row (al_new w6 (.cells #[.int .u8 97, .int .u8 98, .int .u8 99] 5 (3, 4))) 3 3 rfl)
            have HBx2 : Hd (Below w6.heap.size w6 (w6.alloc (.cells #[.int .u8 97, .int .u8 98, .int .u8 99] 5 (3, 4)))) := hid ((Below.refl _ _).alloc (Nat.le_refl _) _)
            go_wp2_with fail
            generalize (w6.alloc (.cells #[.int .u8 97, .int .u8 98, .int .u8 99] 5 (3, 4))) = w8 at *
            have hW8 := HW6.out.below HBx2.out
            have hA6 : A < w6.heap.size := by obtain ⟨_, _, h⟩ := HW6.out; exact (h.lo A h.mem).2
            have hz8 : w.heap.size ≤ w8.heap.size := Nat.le_trans (Nat.le_trans HB.out.size HT6.out.fr.size) HBx2.out.size
            refine (wfeed_any w.heap.size A bs6 x3 _ [97, 98, 99] w8 hW8 hok3 HBy2.out.src (fun ad n c h _ => by simp at h; rw [← h.1]; simp; omega) hz8).mono ?_
            have hok9 := pourW_dead hbr3 [97, 98, 99]
            rw [hok9]
            rintro e w9 ⟨rfl, bs9, hW9, hT9⟩
            dsimp only at hW9 ⊢
            have HW9 := hid hW9
            have HT9 := hid ((HT6.out.trans (Turns.of_below bs6 HBx2.out)).trans hT9)
            clear hW9 hT9 hW8 hok9 HBy2 HBx2 kc HW6 HT6
            go_wp2_with fail
            refine (wdraw_dead 0 ⟨#[]⟩ w.heap.size A bs9 _ w9 HW9.out hbr3 (by decide) (by decide)).mono ?_
            rintro e w10 ⟨rfl, hw7⟩
            have hw8 := hw7.symm
            subst hw8
            clear hw7
            go_wp2
            go_ret
            exact ⟨by show Ending.returned (Value.bool (re != 0)) = Ending.returned (Value.bool true); rw [show (re != 0) = true from by simpa using hre], HB.out.trans (HT9.out.below hbs HB.out.size)⟩
end Go.Proofs.Ytbifmhbkmnofiaa
