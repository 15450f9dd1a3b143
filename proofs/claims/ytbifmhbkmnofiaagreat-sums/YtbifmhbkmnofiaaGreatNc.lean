import Derived.Test.YtbifmhbkmnofiaaGreatMp
import Derived.Test.YtbifmhbkmnofiaaGreatNb
namespace Go.Proofs.YtbifmhbkmnofiaaGreat
open Go.RowKit
set_option linter.unusedVariables false
set_option linter.unusedSimpArgs false
/-- the document's guard: what it is held to, all samples that came, is the watch broken -/
structure Rg where
  st : Int
  wi : Int
  sk : Int
  cs : List Int
  br : Bool
def Rg.cells (g : Rg) (cv : Value) : List Value := [.int .i64 g.st, .int .i64 g.wi, .int .i64 g.sk, cv, .bool g.br]
/-- it lies in block Y, its samples in a row of its own; all its blocks are among bs -/
structure RgW (w : World) (N Y : Nat) (bs : List Nat) (g : Rg) (cv : Value) : Prop where
  cells : WbAt w Y (g.cells cv)
  own : OwnB w N cv g.cs
  ob : ∀ b, cv.ownBlock = some b → b ∈ bs ∧ b ≠ Y
  mem : Y ∈ bs
  lo : ∀ b ∈ bs, N ≤ b ∧ b < w.heap.size
def RgAt (w : World) (N Y : Nat) (bs : List Nat) (g : Rg) : Prop := ∃ cv, RgW w N Y bs g cv
theorem RgAt.other {w w' : World} {N Y : Nat} {bs : List Nat} {g : Rg} (h : RgAt w N Y bs g) (hs : w.heap.size ≤ w'.heap.size) (he : ∀ b ∈ bs, w'.heap[b]? = w.heap[b]?) : RgAt w' N Y bs g := by
  obtain ⟨cv, h⟩ := h
  exact ⟨cv, h.cells.other (he Y h.mem), h.own.other (fun b hb => he b (h.ob b hb).1), h.ob, h.mem, fun b hb => ⟨(h.lo b hb).1, by have := (h.lo b hb).2; omega⟩⟩
theorem RgAt.below {w w' : World} {N Y : Nat} {bs : List Nat} {g : Rg} (h : RgAt w N Y bs g) (hb : Below w.heap.size w w') : RgAt w' N Y bs g :=
  h.other hb.size (fun b hm => by obtain ⟨_, h⟩ := h; exact hb.block b (h.lo b hm).2)
theorem RgW.c {w : World} {N Y : Nat} {bs : List Nat} {g : Rg} {cv : Value} (h : RgW w N Y bs g cv) : w.cell? ⟨Y, 0, none⟩ = some (.int .i64 g.st) ∧ w.cell? ⟨Y, 1, none⟩ = some (.int .i64 g.wi) ∧ w.cell? ⟨Y, 2, none⟩ = some (.int .i64 g.sk) ∧ w.cell? ⟨Y, 3, none⟩ = some cv ∧ w.cell? ⟨Y, 4, none⟩ = some (.bool g.br) :=
  ⟨h.cells.cell 0, h.cells.cell 1, h.cells.cell 2, h.cells.cell 3, h.cells.cell 4⟩
set_option maxHeartbeats 1000000 in
theorem rnewGuard_yes (st wi sk : Int) (N : Nat) (w : World) (h : 2 ≤ st ∧ st ≤ 50 ∧ 2 ≤ wi ∧ wi ≤ 50 ∧ 2 ≤ sk ∧ sk ≤ wi) (hN : N ≤ w.heap.size) :
    Calls Tryz.prog 37 #[.agg #[.int .i64 st, .int .i64 wi, .int .i64 sk]] w fun e w' => ∃ Y, e = .returned (.tuple #[.pointer (some ⟨Y, 0, none⟩), .int .i64 0]) ∧ w.heap.size ≤ Y ∧ RgAt w' N Y [Y] ⟨st, wi, sk, [], false⟩ ∧ Below w.heap.size w w' := by
  obtain ⟨h1, h2, h3, h4, h5, h6⟩ := h
  have hb1 := al_new w (.cells #[.int .i64 st, .int .i64 wi, .int .i64 sk] 36)
  have HB1 := hid ((Below.refl w.heap.size w).alloc (Nat.le_refl _) (.cells #[.int .i64 st, .int .i64 wi, .int .i64 sk] 36))
  have hz1 := al_size w (.cells #[.int .i64 st, .int .i64 wi, .int .i64 sk] 36)
  have c0 := cell_of_row _ _ 0 _ _ _ hb1
  have c1 := cell_of_row _ _ 1 _ _ _ hb1
  have c2 := cell_of_row _ _ 2 _ _ _ hb1
  simp only [List.getElem?_toArray, List.getElem?_cons_zero, List.getElem?_cons_succ] at c0 c1 c2
  clear hb1
  go_enter Tryz.func37, Tryz.ntmps37
  go_wp2_with fail
  generalize (w.alloc (.cells #[.int .i64 st, .int .i64 wi, .int .i64 sk] 36)) = w1 at *
  go_ret2
  refine ⟨w.heap.size + 1, rfl, by omega, ⟨.slice none 0 0, ⟨138, by rw [← hz1]; exact al_new _ _⟩, World.ownsRow_nil _ _ _ _, fun b hb => by simp [Value.ownBlock] at hb, by simp, fun b hb => ?_⟩, HB1.out.alloc HB1.out.size _⟩
  simp at hb
  subst hb
  have := al_size w1 (.cells #[.int .i64 st, .int .i64 wi, .int .i64 sk, .slice none 0 0, .bool false] 138)
  omega
set_option maxHeartbeats 2000000 in
theorem rnewGuard_no (st wi sk : Int) (w : World) (h : ¬ (2 ≤ st ∧ st ≤ 50 ∧ 2 ≤ wi ∧ wi ≤ 50 ∧ 2 ≤ sk ∧ sk ≤ wi)) :
    Calls Tryz.prog 37 #[.agg #[.int .i64 st, .int .i64 wi, .int .i64 sk]] w fun e w' => e = .returned (.tuple #[.pointer none, .int .i64 2]) ∧ Below w.heap.size w w' := by
  have hb1 := al_new w (.cells #[.int .i64 st, .int .i64 wi, .int .i64 sk] 36)
  have HB1 := hid ((Below.refl w.heap.size w).alloc (Nat.le_refl _) (.cells #[.int .i64 st, .int .i64 wi, .int .i64 sk] 36))
  have c0 := cell_of_row _ _ 0 _ _ _ hb1
  have c1 := cell_of_row _ _ 1 _ _ _ hb1
  have c2 := cell_of_row _ _ 2 _ _ _ hb1
  simp only [List.getElem?_toArray, List.getElem?_cons_zero, List.getElem?_cons_succ] at c0 c1 c2
  clear hb1
  generalize hw1 : (w.alloc (.cells #[.int .i64 st, .int .i64 wi, .int .i64 sk] 36)) = w1 at *
  have hw2 : w.alloc (.cells #[.int .i64 st, .int .i64 wi, .int .i64 sk] 36) = w1 := hw1
  clear hw1
  by_cases h1 : st < 2
  · go_enter Tryz.func37, Tryz.ntmps37
    go_wp2
    go_ret2
    exact ⟨rfl, by first | exact HB1.out | (rw [hw2]; exact HB1.out)⟩
  by_cases h2 : 50 < st
  · go_enter Tryz.func37, Tryz.ntmps37
    go_wp2
    go_ret2
    exact ⟨rfl, by first | exact HB1.out | (rw [hw2]; exact HB1.out)⟩
  by_cases h3 : wi < 2
  · go_enter Tryz.func37, Tryz.ntmps37
    go_wp2
    go_ret2
    exact ⟨rfl, by first | exact HB1.out | (rw [hw2]; exact HB1.out)⟩
  by_cases h4 : 50 < wi
  · go_enter Tryz.func37, Tryz.ntmps37
    go_wp2
    go_ret2
    exact ⟨rfl, by first | exact HB1.out | (rw [hw2]; exact HB1.out)⟩
  by_cases h5 : sk < 2
  · go_enter Tryz.func37, Tryz.ntmps37
    go_wp2
    go_ret2
    exact ⟨rfl, by first | exact HB1.out | (rw [hw2]; exact HB1.out)⟩
  have h6 : wi < sk := by omega
  clear h
  go_enter Tryz.func37, Tryz.ntmps37
  go_wp2
  go_ret2
  exact ⟨rfl, by first | exact HB1.out | (rw [hw2]; exact HB1.out)⟩
theorem RgW.setBr {w : World} {N Y : Nat} {bs : List Nat} {g : Rg} {cv : Value} (h : RgW w N Y bs g cv) (b : Bool) : RgW (w.setCell ⟨Y, 4, none⟩ (.bool b)) N Y bs ⟨g.st, g.wi, g.sk, g.cs, b⟩ cv :=
  ⟨h.cells.set 4 (.bool b), h.own.other (fun k hk => Below.heap_setCell _ _ _ _ (h.ob k hk).2), h.ob, h.mem, fun k hk => ⟨(h.lo k hk).1, by have := (h.lo k hk).2; simpa using this⟩⟩
theorem RgW.setCv {w : World} {N Y : Nat} {bs : List Nat} {g : Rg} {cv : Value} (h : RgW w N Y bs g cv) {bs' : List Nat} {cs : List Int} {v : Value} (ho : OwnB w N v cs) (hob : ∀ b, v.ownBlock = some b → b ∈ bs' ∧ b ≠ Y) (hm : Y ∈ bs') (hlo : ∀ b ∈ bs', N ≤ b ∧ b < w.heap.size) : RgW (w.setCell ⟨Y, 3, none⟩ v) N Y bs' ⟨g.st, g.wi, g.sk, cs, g.br⟩ v :=
  ⟨h.cells.set 3 v, ho.other (fun k hk => Below.heap_setCell _ _ _ _ (hob k hk).2), hob, hm, fun k hk => ⟨(hlo k hk).1, by have := (hlo k hk).2; simpa using this⟩⟩
set_option maxHeartbeats 1000000 in
theorem rgreset_any (N Y : Nat) (bs : List Nat) (g : Rg) (w : World) (h : RgAt w N Y bs g) :
    Calls Tryz.prog 39 #[.pointer (some ⟨Y, 0, none⟩)] w fun e w' => e = .returned (.tuple #[]) ∧ RgAt w' N Y bs ⟨g.st, g.wi, g.sk, [], false⟩ ∧ Turns w w' bs bs := by
  obtain ⟨cv, h⟩ := h
  obtain ⟨_, _, _, c3, c4⟩ := h.c
  have f3 := h.cells.frozen 3
  have f4 := h.cells.frozen 4
  have h1 := h.setCv (bs' := bs) (cs := []) (v := .slice none 0 0) (World.ownsRow_nil _ _ _ _) (fun b hb => by simp [Value.ownBlock] at hb) h.mem h.lo
  have h2 := hid (h1.setBr false)
  have hE := hid (((Ex.refl Y w).setCell 3 (.slice none 0 0)).setCell 4 (.bool false))
  have hm := h.mem
  clear h h1
  go_enter Tryz.func39, Tryz.ntmps39
  go_wp2
  go_end0
  exact ⟨rfl, ⟨_, h2.out⟩, (Fr.of_ex hE.out).mono (fun k _ e => by rw [e]; exact hm), fun b hb => .inl hb⟩
end Go.Proofs.YtbifmhbkmnofiaaGreat
namespace Go.Proofs.YtbifmhbkmnofiaaGreat
open Go.RowKit
set_option linter.unusedVariables false
set_option linter.unusedSimpArgs false
theorem RgW.below {w w' : World} {N Y : Nat} {bs : List Nat} {g : Rg} {cv : Value} (h : RgW w N Y bs g cv) (hb : Below w.heap.size w w') : RgW w' N Y bs g cv :=
  ⟨h.cells.other (hb.block Y (h.lo Y h.mem).2), h.own.other (fun b hk => hb.block b (h.lo b (h.ob b hk).1).2), h.ob, h.mem, fun b hk => ⟨(h.lo b hk).1, by have := (h.lo b hk).2; have := hb.size; omega⟩⟩
theorem wp_append_at {o : Oper} {a : Act} {w : World} {K : Act → World → Prop} {Q : Exit → Act → World → Prop} (s x : Operand) (t : TypeId) (ho : o.op = .call { callee := .builtin .append, args := #[s, x], argTypes := #[t, t] })
    (base : Nat) (e : TypeId) (i : TypeInfo) (z : Value) (size bytes : Nat) (ht : Tryz.prog.underlying t = some (.slice e)) (hi : Tryz.prog.info? e = some i) (hz : i.zero = some z)
    (hsize : i.size = size) (hby : i.bytes = bytes) (hzs : z.cells.size = size) (hsz : 0 < size)
    (v : Value) (n : Nat) (xs : List Value) (hs : a.eval s = v) (hown : w.ownsRow base e size v n xs)
    (ad : Addr) (m c : Nat) (news : List Value) (hx : a.eval x = .slice (some ad) m c) (hl : news.length = m * size) (hnews : ∀ j u, news[j]? = some u → w.cell? (ad.add j) = some u) (h1 : ∀ u ∈ news, u.oneCell' = true)
    (h63 : n + m ≤ maxLen) (hbytes : (n + m) * bytes ≤ 140737488355328) (hbase : base ≤ w.heap.size)
    (h : ∀ v' w', w'.ownsRow base e size v' (n + m) (xs ++ news) → w.grownBy w' v.ownBlock → (v'.ownBlock = v.ownBlock ∨ v'.ownBlock = some w.heap.size) → K (a.put o.dst v') w') :
    Oper.wp Tryz.prog o a w K Q := by
  obtain ⟨v', w', hr, h2, h3, h4, h5⟩ := run_append_own_at (P := Tryz.prog) w base t o.type e i z size bytes ht hi hz hsize hby hzs hsz v n xs hown ad m c news hl hnews h1 h63 hbytes hbase
  unfold Oper.wp execOp
  simp only [ho, resolve, invoke, builtin, Sem.run_bind, Sem.run_pure, Result.andThen_ok, List.map_toArray, List.map_cons, List.map_nil, hs, hx, hr]
  exact h v' w' h2 h3 h5
theorem RgW.drewN {w : World} {N Y : Nat} {bs : List Nat} {g : Rg} {cv : Value} (h : RgW w N Y bs g cv) (m : Nat) : RgW (w.drewN m) N Y bs g cv := ⟨h.cells, h.own, h.ob, h.mem, h.lo⟩
theorem Turns.drewN {w w' : World} {bs bs' : List Nat} (h : Turns w w' bs bs') (m : Nat) : Turns w (w'.drewN m) bs bs' := ⟨⟨h.fr.1, h.fr.2, h.fr.3, h.fr.4, h.fr.5⟩, h.grow⟩
/-- the program's guard beside the document's -/
structure GR (gd : Gd) (g : Rg) : Prop where
  st : g.st = gd.st
  wi : g.wi = gd.wi
  sk : g.sk = gd.sk
  br : g.br = gd.br
  ok : gd.ok
  ab : gd.br = false → Ab g.cs gd.wi.toNat gd.x
set_option maxHeartbeats 1000000 in
theorem rgfeed_dead (N Y : Nat) (bs : List Nat) (g : Rg) (a : Option Addr) (n c : Nat) (w : World) (h : RgAt w N Y bs g) (hb : g.br = true) :
    Calls Tryz.prog 41 #[.pointer (some ⟨Y, 0, none⟩), .slice a n c] w fun e w' => e = .returned (.tuple #[.int .i64 0, .int .i64 6]) ∧ w' = w := by
  obtain ⟨cv, h⟩ := h
  obtain ⟨_, _, _, _, c4⟩ := h.c
  rw [hb] at c4
  clear h
  go_enter Tryz.func41, Tryz.ntmps41
  go_wp2
  go_ret2
  exact ⟨rfl, rfl⟩
set_option maxHeartbeats 1000000 in
theorem rgfeed_many (N Y : Nat) (bs : List Nat) (g : Rg) (a : Option Addr) (n c : Nat) (w : World) (h : RgAt w N Y bs g) (hb : g.br = false) (hn : 200 < n) :
    Calls Tryz.prog 41 #[.pointer (some ⟨Y, 0, none⟩), .slice a n c] w fun e w' => e = .returned (.tuple #[.int .i64 0, .int .i64 2]) ∧ w' = w := by
  obtain ⟨cv, h⟩ := h
  obtain ⟨_, _, _, _, c4⟩ := h.c
  rw [hb] at c4
  clear h
  go_enter Tryz.func41, Tryz.ntmps41
  go_wp2
  go_ret2
  exact ⟨rfl, rfl⟩
set_option maxRecDepth 20000 in
set_option maxHeartbeats 2000000 in
theorem rgfeed_take (N Y : Nat) (bs : List Nat) (gd : Gd) (g : Rg) (v : Value) (xs : List Int) (w : World) (h : RgAt w N Y bs g) (hR : GR gd g) (hb : gd.br = false) (hv : Byt w v xs) (hvB : ∀ ad n c, v = .slice (some ad) n c → 0 < n → ad.block ∉ bs) (hl : xs.length ≤ 200) (hcl : g.cs.length + xs.length ≤ 70368744177664) (hN : N ≤ w.heap.size) :
    Calls Tryz.prog 41 #[.pointer (some ⟨Y, 0, none⟩), v] w fun e w' => e = .returned (.tuple #[.int .i64 (fedG gd xs).1, .int .i64 (fedG gd xs).2.1]) ∧ ∃ bs' g', RgAt w' N Y bs' g' ∧ GR (fedG gd xs).2.2 g' ∧ g'.cs.length ≤ g.cs.length + xs.length ∧ Turns w w' bs bs' := by
  obtain ⟨a, cap, rfl, hcell⟩ := hv.form2
  obtain ⟨st, wi, sk, cs, br⟩ := g
  obtain ⟨gst, gwi, gsk, gx, gbr⟩ := gd
  obtain ⟨e1, e2, e3, e4, hok, hab⟩ := hR
  dsimp only at e1 e2 e3 e4 hab hb
  subst e1 e2 e3 e4 hb
  have hab := hab rfl
  obtain ⟨⟨l1, l2, l3, l4, l5, l6⟩, hx⟩ := hok
  dsimp only at l1 l2 l3 l4 l5 l6 hx hcl
  obtain ⟨W, rfl⟩ : ∃ W : Nat, wi = (W : Int) := ⟨wi.toNat, by omega⟩
  rw [Int.toNat_natCast] at hab
  have hlim : 2 ≤ st ∧ st ≤ 50 ∧ 2 ≤ (W : Int) ∧ (W : Int) ≤ 50 ∧ 2 ≤ sk ∧ sk ≤ (W : Int) := ⟨l1, l2, l3, l4, l5, l6⟩
  obtain ⟨i0, hi, hz0, hz1, hz2⟩ := info_parts Tryz.infoB
  have hl' : ¬ 200 < (xs.length : Int) := by omega
  have Hc := hid hcell
  have HvB := hid hvB
  have HI : Hd (∃ (k : Nat) (z : WS) (ck : List Int) (bk : List Nat), k ≤ xs.length ∧ Value.int .i64 0 = .int .i64 k ∧ z.ok st W sk ∧ takeW st W sk gx xs 0 = takeW st W sk z (xs.drop k) k ∧ Ab ck W z ∧ ck.length = cs.length + k ∧ RgAt w N Y bk ⟨st, W, sk, ck, false⟩ ∧ Turns w w bs bk) := hid ⟨0, gx, cs, bs, by omega, rfl, hx, rfl, hab, rfl, h, Turns.refl _ _⟩
  have hc4 : w.cell? ⟨Y, 4, none⟩ = some (.bool false) := by obtain ⟨cv, h⟩ := h; exact h.c.2.2.2.2
  clear hcell hvB h hx hab hv
  go_enter Tryz.func41, Tryz.ntmps41
  go_wp2
  go_loopw [6] (fun i wr => ∃ (k : Nat) (z : WS) (ck : List Int) (bk : List Nat), k ≤ xs.length ∧ i = .int .i64 k ∧ z.ok st W sk ∧ takeW st W sk gx xs 0 = takeW st W sk z (xs.drop k) k ∧ Ab ck W z ∧ ck.length = cs.length + k ∧ RgAt wr N Y bk ⟨st, W, sk, ck, false⟩ ∧ Turns w wr bs bk) (fun i _ => xs.length - (intOf i).toNat)
  case atStart => exact HI.out
  case round =>
    clear HI
    obtain ⟨k, z, ck, bk, hk, rfl, hz, htk, hab, hckl, ⟨cv, hG⟩, hT⟩ := hrel
    by_cases hlt : k < xs.length
    · obtain ⟨db, off, hadr, hcell⟩ := Hc.out (by omega)
      have e0 := hcell k hlt
      have hdb : db ∉ bs := HvB.out _ _ _ (by rw [hadr]) (by omega)
      have hdl : db < w.heap.size := World.block_lt_of_cell? w _ e0
      have e5 : wr.cell? ⟨db, off + k, none⟩ = some (.int .u8 (xs[k]?.getD 0)) := by rw [← e0]; unfold World.cell?; rw [hT.fr.block db hdl hdb]
      have hdbk : db ∉ bk := fun hh => by
        rcases hT.grow _ hh with q | q
        · exact hdb q
        · exact absurd hdl (by omega)
      have hdz : db < wr.heap.size := Nat.lt_of_lt_of_le hdl hT.fr.size
      have htk2 : takeW st W sk gx xs 0 = takeW st W sk z (xs[k]?.getD 0 :: xs.drop (k + 1)) k := by rw [htk, List.drop_eq_getElem_cons hlt, List.getElem?_eq_getElem hlt]; rfl
      generalize xs[k]?.getD 0 = b at *
      obtain ⟨c0, c1, c2, c3, c4⟩ := hG.c
      have hform := hG.own.slice
      have hGY := hG.mem
      obtain ⟨ca, ccap, hcv, _, _⟩ := hform
      dsimp only at c0 c1 c2 c3 c4 hcv
      subst hcv
      have Hckl := hid hckl
      have hck3 : ck.length < 140737488355328 := by omega
      clear hckl
      have hltI : (k : Int) < xs.length := by omega
      have Htk := hid htk2
      have HG := hid hG
      have HT := hid hT
      have Hz := hid hz
      clear htk htk2 hT hz e0 hcell hG
      subst hadr
      go_wp2_with fail
      refine wp_region_E (S := fun w' => w'.cell? ⟨Y, 3, none⟩ = some (.slice ca ck.length ccap) ∧ w'.cell? ⟨db, off + k, none⟩ = some (.int .u8 b)) 13 (by kernel_rfl) ⟨c3, e5⟩ (fun hSw => ?_)
      refine wpAnyE_take (i := 0) (v := ?_) rfl (by decide +kernel) (by decide) (by decide +kernel) (by decide +kernel) (by decide +kernel) (fun _ _ _ h => h) (Or.inl ⟨by rfl, ?_⟩) hSw ?_
      rotate_left
      · intro w hw; go_simp; try with_reducible rfl
      simp only [Act.put, List.getElem_toArray, List.getElem_cons_zero, List.getElem_cons_succ, List.setIfInBounds_toArray, List.set_cons_zero, List.set_cons_succ]
      refine wpAnyE_take (i := 1) (v := ?_) rfl (by decide +kernel) (by decide) (by decide +kernel) (by decide +kernel) (by decide +kernel) (fun _ _ _ h => h) (Or.inl ⟨by rfl, ?_⟩) hSw ?_
      rotate_left
      · intro w hw; go_simp; try with_reducible rfl
      simp only [Act.put, List.getElem_toArray, List.getElem_cons_zero, List.getElem_cons_succ, List.setIfInBounds_toArray, List.set_cons_zero, List.set_cons_succ]
      refine wpAnyE_take (i := 2) (v := ?_) rfl (by decide +kernel) (by decide) (by decide +kernel) (by decide +kernel) (by decide +kernel) (fun _ _ _ h => h) (Or.inl ⟨by rfl, ?_⟩) hSw ?_
      rotate_left
      · intro w hw; go_simp; try with_reducible rfl
      simp only [Act.put, List.getElem_toArray, List.getElem_cons_zero, List.getElem_cons_succ, List.setIfInBounds_toArray, List.set_cons_zero, List.set_cons_succ]
      refine wpAnyE_take (i := 3) (v := ?_) rfl (by decide +kernel) (by decide) (by decide +kernel) (by decide +kernel) (by decide +kernel) (fun _ _ _ h => h) (Or.inl ⟨by rfl, ?_⟩) hSw ?_
      rotate_left
      · intro w hw; go_simp; try with_reducible rfl
      simp only [Act.put, List.getElem_toArray, List.getElem_cons_zero, List.getElem_cons_succ, List.setIfInBounds_toArray, List.set_cons_zero, List.set_cons_succ]
      refine wpAnyE_take (i := 4) (v := ?_) rfl (by decide +kernel) (by decide) (by decide +kernel) (by decide +kernel) (by decide +kernel) (fun _ _ _ h => h) (Or.inl ⟨by rfl, ?_⟩) hSw ?_
      rotate_left
      · intro w hw; have hcell := hw.1; clear hw; go_simp; try with_reducible rfl
      simp only [Act.put, List.getElem_toArray, List.getElem_cons_zero, List.getElem_cons_succ, List.setIfInBounds_toArray, List.set_cons_zero, List.set_cons_succ]
      refine wpAnyE_take (i := 5) (v := ?_) rfl (by decide +kernel) (by decide) (by decide +kernel) (by decide +kernel) (by decide +kernel) (fun _ _ _ h => h) (Or.inl ⟨by rfl, ?_⟩) hSw ?_
      rotate_left
      · intro w hw; go_simp; try with_reducible rfl
      simp only [Act.put, List.getElem_toArray, List.getElem_cons_zero, List.getElem_cons_succ, List.setIfInBounds_toArray, List.set_cons_zero, List.set_cons_succ]
      refine wpAnyE_take (i := 6) (v := ?_) rfl (by decide +kernel) (by decide) (by decide +kernel) (by decide +kernel) (by decide +kernel) (fun _ _ _ h => h) (Or.inl ⟨by rfl, ?_⟩) hSw ?_
      rotate_left
      · intro w hw; go_simp; try with_reducible rfl
      simp only [Act.put, List.getElem_toArray, List.getElem_cons_zero, List.getElem_cons_succ, List.setIfInBounds_toArray, List.set_cons_zero, List.set_cons_succ]
      refine wpAnyE_take (i := 7) (v := ?_) rfl (by decide +kernel) (by decide) (by decide +kernel) (by decide +kernel) (by decide +kernel) (fun _ _ _ h => h) (Or.inl ⟨by rfl, ?_⟩) hSw ?_
      rotate_left
      · intro w hw; go_simp; try with_reducible rfl
      simp only [Act.put, List.getElem_toArray, List.getElem_cons_zero, List.getElem_cons_succ, List.setIfInBounds_toArray, List.set_cons_zero, List.set_cons_succ]
      refine wpAnyE_take (i := 8) (v := ?_) rfl (by decide +kernel) (by decide) (by decide +kernel) (by decide +kernel) (by decide +kernel) (fun _ _ _ h => h) (Or.inl ⟨by rfl, ?_⟩) hSw ?_
      rotate_left
      · intro w hw; have hcell := hw.2; clear hw; go_simp; try with_reducible rfl
      simp only [Act.put, List.getElem_toArray, List.getElem_cons_zero, List.getElem_cons_succ, List.setIfInBounds_toArray, List.set_cons_zero, List.set_cons_succ]
      have hB2 : Below wr.heap.size wr (wr.alloc (.cells #[Value.int .u8 b] 5)) := (Below.refl _ _).alloc (Nat.le_refl _) _
      have HG2 := hid (HG.out.below hB2)
      have e6 : (wr.alloc (.cells #[Value.int .u8 b] 5)).cell? ⟨db, off + k, none⟩ = some (.int .u8 b) := by rw [← e5]; unfold World.cell?; rw [hB2.block db hdz]
      have hcn := hid (cell_one_new wr (.int .u8 b) 5)
      have hz2' := al_size wr (.cells #[Value.int .u8 b] 5)
      have HT2 := hid (HT.out.trans (Turns.of_below bk hB2))
      refine wpAnyE_one (i := 9) (by kernel_rfl) rfl (fun K hK => ?_)
      go_simp
      have hSw2 : (wr.alloc (.cells #[Value.int .u8 b] 5)).drew.cell? ⟨Y, 3, none⟩ = some (.slice ca ck.length ccap) ∧ (wr.alloc (.cells #[Value.int .u8 b] 5)).drew.cell? ⟨db, off + k, none⟩ = some (.int .u8 b) := ⟨HG2.out.c.2.2.2.1, e6⟩
      refine hK.out _ _ (fun _ => hSw2) ?_
      replace hSw := hSw2
      clear hK K hB2 HG HT
      have hNr : N ≤ wr.heap.size := Nat.le_trans hN HT2.out.fr.size |> fun h => by have := (HG2.out.lo Y HG2.out.mem).1; have := (HG2.out.lo Y HG2.out.mem).2; omega
      generalize (wr.alloc (.cells #[Value.int .u8 b] 5)) = wA at *
      refine wpAnyE_one (i := 10) (by kernel_rfl) rfl (fun K hK => ?_)
      rw [if_pos (by rfl)]
      refine wp_append_at _ _ 41 rfl N 5 i0 (.int .u8 0) 1 1 Tryz.underlying41 hi hz0 hz1 hz2 rfl (by decide) (.slice ca ck.length ccap) ck.length (ck.map (Value.int .u8)) rfl HG2.out.own ⟨wr.heap.size, 0, none⟩ 1 1 [.int .u8 b] rfl rfl hcn.out (fun u hu => by simp at hu; subst hu; rfl) (by unfold maxLen; omega) (by omega) (by show N ≤ wA.heap.size; omega) ?_
      intro v' w5 hown hgr hat
      have hown2 : OwnB w5 N v' (ck ++ [b]) := by unfold OwnB; rw [List.length_append, List.map_append]; exact hown
      have hzg : wA.heap.size ≤ w5.heap.size := hgr.size
      have hYob : (Value.slice ca ck.length ccap).ownBlock ≠ some Y := fun hh => (HG2.out.ob Y hh).2 rfl
      have hdob : (Value.slice ca ck.length ccap).ownBlock ≠ some db := fun hh => hdbk (HG2.out.ob db hh).1
      have hG5 : RgW w5 N Y (bk ++ [wA.heap.size]) ⟨st, W, sk, ck, false⟩ (.slice ca ck.length ccap) → True := fun _ => trivial
      have hWb5 : WbAt w5 Y (Rg.cells ⟨st, W, sk, ck, false⟩ (.slice ca ck.length ccap)) := HG2.out.cells.other (hgr.block Y (HG2.out.lo Y HG2.out.mem).2 (fun hh => hYob hh.symm))
      have hdA : db < wA.heap.size := by omega
      have e7 : w5.cell? ⟨db, off + k, none⟩ = some (.int .u8 b) := by
        have h1 : wA.cell? ⟨db, off + k, none⟩ = some (.int .u8 b) := hSw.2
        rw [← h1]
        unfold World.cell?
        rw [hgr.block db hdA (fun hh => hdob hh.symm)]
        rfl
      have hSw5 : w5.cell? ⟨Y, 3, none⟩ = some (.slice ca ck.length ccap) ∧ w5.cell? ⟨db, off + k, none⟩ = some (.int .u8 b) := ⟨hWb5.cell 3, e7⟩
      refine hK.out _ _ (fun _ => hSw5) ?_
      replace hSw := hSw5
      clear hK K hSw2 hSw5 hG5 e6
      have hmore : ∃ b2 : List Nat, (∀ q ∈ bk, q ∈ b2) ∧ (∀ q, v'.ownBlock = some q → q ∈ b2 ∧ q ≠ Y) ∧ (∀ q ∈ b2, N ≤ q ∧ q < w5.heap.size) ∧ (∀ q ∈ b2, q ∈ bk ∨ wA.heap.size ≤ q) := by
        rcases hat with q | q
        · exact ⟨bk, fun _ h => h, fun c hc => by rw [q] at hc; exact HG2.out.ob c hc, fun c hc => ⟨(HG2.out.lo c hc).1, by have := (HG2.out.lo c hc).2; omega⟩, fun c hc => .inl hc⟩
        · have hY := (HG2.out.lo Y HG2.out.mem).2
          have q2 : v'.ownBlock = some wA.heap.size := q
          have hlt5 := (hown2.own _ q2).2
          refine ⟨bk ++ [wA.heap.size], fun _ h => by simp [h], fun c hc => ?_, fun c hc => ?_, fun c hc => ?_⟩
          · rw [q2] at hc
            simp only [Option.some.injEq] at hc
            exact ⟨by rw [← hc]; simp, by omega⟩
          · simp at hc
            rcases hc with hc | hc
            · exact ⟨(HG2.out.lo c hc).1, by have := (HG2.out.lo c hc).2; omega⟩
            · subst hc; exact ⟨by omega, hlt5⟩
          · simp at hc
            rcases hc with hc | hc
            · exact .inl hc
            · exact .inr (by omega)
      obtain ⟨b2, hb2, hvob, hlo2, hgr2⟩ := hmore
      have HT5 : Hd (Turns w w5 bs b2) := hid (HT2.out.trans ⟨⟨hgr.os, hgr.tape, hgr.output, hgr.size, fun q hq hnq => hgr.block q hq (fun hh => hnq (HG2.out.ob q hh.symm).1)⟩, hgr2⟩)
      have HG5 : Hd (RgW (w5.setCell ⟨Y, 3, none⟩ v') N Y b2 ⟨st, W, sk, ck ++ [b], false⟩ v') := hid ⟨hWb5.set 3 v', hown2.other (fun q hq => Below.heap_setCell _ _ _ _ (hvob q hq).2), hvob, hb2 Y hGY, fun q hq => ⟨(hlo2 q hq).1, by have := (hlo2 q hq).2; simpa using this⟩⟩
      have HT6 : Hd (Turns w (w5.setCell ⟨Y, 3, none⟩ v') bs b2) := hid (HT5.out.trans ⟨(Fr.of_ex ((Ex.refl Y w5).setCell 3 v')).mono (fun q _ hq => by rw [hq]; exact hb2 Y hGY), fun q hq => .inl hq⟩)
      obtain ⟨gB, capB, hvB5, hgN, hgc, hcm, hwr5⟩ := Wr.of_owns (w := w5) (N := N) (n := (ck ++ [b]).length) (v := v') (xs := ck ++ [b]) hown2 (by simp)
      have f3 := hWb5.frozen 3
      have cc3 := hSw.1
      clear hat hgr hown hown2 HT2 HT5 HG2 hdob hYob hvob hlo2 hgr2 hcn hWb5 e7
      have hbs := bad_step (st := st) (sk := sk) hab (show 2 ≤ W by omega) Hz.out.n1 b
      have hab2 := hab.next (show 2 ≤ W by omega) b
      have hl5 : (ck ++ [b]).length = cs.length + (k + 1) := by rw [List.length_append, Hckl.out]; rfl
      have Hbs := hid hbs
      have Hab2 := hid hab2
      have Hl5 := hid hl5
      clear hwr5 hbs hab2 hab hl5
      generalize ck ++ [b] = ck2 at *
      subst hvB5
      refine wpAnyE_one (i := 11) (by kernel_rfl) rfl (fun K hK => ?_)
      go_simp
      refine hK.out _ _ (fun _ => hSw) ?_
      clear hK K
      refine wpAnyE_one (i := 12) (by kernel_rfl) rfl (fun K hK => ?_)
      go_simp
      refine hK.out _ _ (fun _ => hSw) ?_
      clear hK K
      refine wpAnyE_one (i := 13) (by kernel_rfl) rfl (fun K hK => ?_)
      go_simp
      generalize (w5.setCell ⟨Y, 3, none⟩ (.slice (some ⟨gB, 0, none⟩) ck2.length capB)) = wC at *
      refine hK.out _ _ (fun h => absurd rfl h) ?_
      clear hK K hSw cc3 f3
      refine wpAnyE_done (by kernel_rfl) ?_ _
      obtain ⟨d0, d1, d2, d3, d4⟩ := HG5.out.c
      dsimp only at d0 d1 d2 d3 d4
      have hpos : 0 < ck2.length := by have := Hl5.out; omega
      have hle5 : ck2.length ≤ 4611686018427387904 := by have := Hl5.out; omega
      have hcl5 : ∀ j, j < ck2.length → wC.cell? ⟨gB, j, none⟩ = some (.int .u8 (ck2[j]?.getD 0)) := by
        obtain ⟨gB', capB', hv6, _, _, _, hwr6⟩ := Wr.of_owns (w := wC) (N := N) (n := ck2.length) (xs := ck2) HG5.out.own hpos
        cases hv6
        exact hwr6.cells
      have B := hid (bad_any st sk W ck2 _ false Y gB capB wC d0 d1 d2 d3 hcl5 hpos hle5 (by omega) (by omega) Hab2.out)
      rw [Hbs.out] at B
      have rt := runW_t z b Hz.out.t0
      have wb := winW_bd (runW z b) b W (by have := (runW_rest z b).2.1; have := Hz.out.n0; omega) (by have := (runW_rest z b).2.2; have := Hz.out.c0; omega) (by have := (runW_rest z b).2.2; have := Hz.out.c1; omega) (by omega)
      have hzt := Hz.out.t1
      have htkc := Htk.out
      rw [takeW_cons] at htkc
      have Htk1 := hid htkc
      clear Hbs hcl5 htkc Htk hpos hle5
      by_cases h1 : st ≤ (runW z b).t
      · rw [if_pos h1] at B
        have Htk2 := hid (Htk1.out.trans (if_pos h1))
        go_wp2_with fail
        refine B.out.mono ?_
        rintro e w7 ⟨rfl, m, rfl⟩
        have HG7 := hid (HG5.out.drewN m)
        have HT7 := hid (HT6.out.drewN m)
        have d47 : (wC.drewN m).cell? ⟨Y, 4, none⟩ = _ := d4
        have f47 : (wC.drewN m).frozen? ⟨Y, 4, none⟩ = false := HG5.out.cells.frozen 4
        clear B d0 d1 d2 d3 d4 HG5 HT6
        generalize wC.drewN m = w7 at *
        have he : Hd (fedG ⟨st, W, sk, gx, false⟩ xs = ((k : Int), 4, ⟨st, W, sk, W0, true⟩)) := hid (by unfold fedG; dsimp only; rw [Htk2.out])
        have HGb := hid (HG7.out.setBr true)
        have HTb := hid (HT7.out.trans ⟨(Fr.of_ex ((Ex.refl Y w7).setCell 4 (.bool true))).mono (fun q _ hq => by rw [hq]; exact HG7.out.mem), fun q hq => .inl hq⟩)
        clear HG7 HT7 Htk1 Htk2
        go_wp2
        go_ret2
        rw [he.out]
        exact ⟨rfl, b2, ⟨st, W, sk, ck2, true⟩, ⟨_, HGb.out⟩, ⟨rfl, rfl, rfl, rfl, Gd.ok_new hlim true, fun h => by cases h⟩, by have := Hl5.out; show ck2.length ≤ cs.length + xs.length; omega, HTb.out⟩
      · rw [if_neg h1] at B
        by_cases h2 : sk ≤ (winW (runW z b) b W).n
        · rw [if_pos h2] at B
          have Htk2 := hid ((Htk1.out.trans (if_neg h1)).trans (if_pos h2))
          go_wp2_with fail
          refine B.out.mono ?_
          rintro e w7 ⟨rfl, m, rfl⟩
          have HG7 := hid (HG5.out.drewN m)
          have HT7 := hid (HT6.out.drewN m)
          have d47 : (wC.drewN m).cell? ⟨Y, 4, none⟩ = _ := d4
          have f47 : (wC.drewN m).frozen? ⟨Y, 4, none⟩ = false := HG5.out.cells.frozen 4
          clear B d0 d1 d2 d3 d4 HG5 HT6
          generalize wC.drewN m = w7 at *
          have he : Hd (fedG ⟨st, W, sk, gx, false⟩ xs = ((k : Int), 5, ⟨st, W, sk, W0, true⟩)) := hid (by unfold fedG; dsimp only; rw [Htk2.out])
          have HGb := hid (HG7.out.setBr true)
          have HTb := hid (HT7.out.trans ⟨(Fr.of_ex ((Ex.refl Y w7).setCell 4 (.bool true))).mono (fun q _ hq => by rw [hq]; exact HG7.out.mem), fun q hq => .inl hq⟩)
          clear HG7 HT7 Htk1 Htk2
          go_wp2
          go_ret2
          rw [he.out]
          exact ⟨rfl, b2, ⟨st, W, sk, ck2, true⟩, ⟨_, HGb.out⟩, ⟨rfl, rfl, rfl, rfl, Gd.ok_new hlim true, fun h => by cases h⟩, by have := Hl5.out; show ck2.length ≤ cs.length + xs.length; omega, HTb.out⟩
        · rw [if_neg h2] at B
          have Htk2 := hid ((Htk1.out.trans (if_neg h1)).trans (if_neg h2))
          have hok2 : (winW (runW z b) b W).ok st W sk := ⟨by omega, by omega, wb.2.1, by omega, wb.2.2.2.1, wb.2.2.2.2⟩
          generalize winW (runW z b) b W = z2 at *
          clear h2 wb rt h1 Htk1
          go_wp2_with fail
          refine B.out.mono ?_
          rintro e w7 ⟨rfl, m, rfl⟩
          have HG7 := hid (HG5.out.drewN m)
          have HT7 := hid (HT6.out.drewN m)
          have d47 : (wC.drewN m).cell? ⟨Y, 4, none⟩ = _ := d4
          have f47 : (wC.drewN m).frozen? ⟨Y, 4, none⟩ = false := HG5.out.cells.frozen 4
          clear B d0 d1 d2 d3 d4 HG5 HT6
          generalize wC.drewN m = w7 at *
          clear d47 f47
          go_wp2
          exact ⟨⟨k + 1, z2, ck2, b2, by omega, by go_num, hok2, Htk2.out, Hab2.out, Hl5.out, ⟨_, HG7.out⟩, HT7.out⟩, by simp [intOf]; omega⟩
    · obtain rfl : k = xs.length := by omega
      have htk3 : takeW st W sk gx xs 0 = (z, none) := by rw [htk, List.drop_of_length_le (Nat.le_refl _)]; rfl
      have he : Hd (fedG ⟨st, W, sk, gx, false⟩ xs = ((xs.length : Int), 0, ⟨st, W, sk, z, false⟩)) := hid (by unfold fedG; dsimp only; rw [htk3])
      have HG := hid hG
      have HT := hid hT
      have Hz := hid hz
      have Hckl := hid hckl
      clear htk htk3 hG hT hz hckl
      go_wp2
      go_ret2
      rw [he.out]
      exact ⟨rfl, bk, ⟨st, W, sk, ck, false⟩, ⟨_, HG.out⟩, ⟨rfl, rfl, rfl, rfl, ⟨hlim, Hz.out⟩, fun _ => by show Ab ck (W : Int).toNat z; rw [Int.toNat_natCast]; exact hab⟩, by have := Hckl.out; show ck.length ≤ cs.length + xs.length; omega, HT.out⟩
end Go.Proofs.YtbifmhbkmnofiaaGreat
