import Derived.Test.YtbifmhbkmnofiaaRows
import Derived.Test.YtbifmhbkmnofiaaKd
import Derived.WalkKit
import Derived.ProofKit
import Derived.OpenShut
import Derived.SizedLaws
import Derived.Deep.Slices
namespace Go.Proofs.Ytbifmhbkmnofiaa
open Go.ChangeShapes Go.WideShapes Go.ChangeAt Go.RowKit
open Go.ChangeMaps (open_string shut_string)
set_option linter.unusedVariables false
set_option linter.unusedSimpArgs false
/-- a cell that can be read lies in no map -/
theorem plain_at {w : World} {a : Addr} {u : Value} (h : w.cell? (a.add 0) = some u) : ∃ b off, a = ⟨b, off, none⟩ := by
  obtain ⟨b, off, sp⟩ := a
  cases sp with
  | none => exact ⟨b, off, rfl⟩
  | some s =>
    exfalso
    revert h
    unfold World.cell? Addr.add
    split <;> simp
theorem Try.cells48 : Try.prog.cellsOf 45 = 4 := by kernel_rfl
theorem Try.cells3 : Try.prog.cellsOf 3 = 1 := by kernel_rfl
theorem Try.cells9 : Try.prog.cellsOf 9 = 1 := by kernel_rfl
theorem wf_i64 {n : Int} (h : (Lit.int .i64 n).wf = true) : -9223372036854775808 ≤ n ∧ n ≤ 9223372036854775807 := by
  simp [Lit.wf, IntKind.min, IntKind.max, IntKind.bits, IntKind.signed] at h
  omega
theorem reach_le {n : Nat} (h : n ≤ reachBytes) : n ≤ 140737488351232 := h
theorem mem_all {H : Type} {P : Program} {e : TypeId} {D : Nat → DataW H} {len i : Nat} (hi : i < len) : ∀ x ∈ (D i).weights P e, x ∈ DataW.weightsAll P e ((List.range len).map D) := by
  have key : ∀ (l : List Nat), i ∈ l → ∀ x ∈ (D i).weights P e, x ∈ DataW.weightsAll P e (l.map D) := by
    intro l
    induction l with
    | nil => intro h; simp at h
    | cons a l ih =>
      intro h x hx
      simp only [List.map_cons, DataW.weightsAll, List.mem_append]
      rcases List.mem_cons.1 h with rfl | h
      · exact Or.inl hx
      · exact Or.inr (ih h x hx)
  exact key _ (List.mem_range.2 hi)
set_option maxRecDepth 100000 in
theorem view_steps {H : Type} {enc : TypeId × Value → H} {W : World} {v : Value} {d : DataW H} {p : List MemPlace} {base : Nat} (hok : Value.okWide Try.prog W .any base 39 v) (h : DataW.Trod enc Try.prog W 0 (fun _ => true) true 39 v d p)
    (hwt : ∀ n ∈ d.weights Try.prog 39, n ≤ reachBytes) : ∃ ss : List Stp, StV W v ss ∧ (∀ x ∈ ss, x.ok) ∧ ss.length ≤ 9223372036854775807 := by
  obtain ⟨a0, len, cap, rfl⟩ := okWide_slice Try.underlying39 hok
  obtain ⟨fuel, hf⟩ := h
  rcases Go.Deep.open_slice Try.underlying39 hf with ⟨hcs, hx⟩ | ⟨a, len', cap', m, n, D, Pl, hcs, _, hl, hm, hmm, hx, hel⟩
  · simp [Value.cells] at hcs
    obtain ⟨rfl, rfl, rfl⟩ := hcs
    exact ⟨[], ⟨none, 0, rfl, fun h => by simp at h⟩, by simp, by simp⟩
  · simp [Value.cells] at hcs
    obtain ⟨rfl, rfl, rfl⟩ := hcs
    simp only [if_true] at hmm
    subst hmm
    have hd : d = .slice ((List.range len).map D) ((List.range (m - len)).map fun j => D (len + j)) := congrArg Prod.fst hx
    subst hd
    have each : ∀ i, ∃ x : Stp, i < len → (W.cell? (a.add (i * 4)) = some (.int .i64 x.k) ∧ W.cell? (a.add (i * 4 + 1)) = some (.int .i64 x.n) ∧ W.cell? (a.add (i * 4 + 2)) = some (.string x.s) ∧ W.cell? (a.add (i * 4 + 3)) = some (.string x.t)) ∧ x.ok := by
      intro i
      by_cases hi : i < len
      · obtain ⟨cs', h1, h2⟩ := hel i (by omega)
        rw [Try.cells48] at h1
        obtain ⟨_, hlen, hcell⟩ := World.cells?_some h1
        obtain ⟨xs, k, hk, hxy, _, hxl, hfld⟩ := DataW.trod_struct Try.underlying45 h2
        have hx4 : xs.length = 4 := hxl
        match xs, hx4, cs', hlen with
        | [y0, y1, y2, y3], _, [v0, v1, v2, v3], _ =>
            have g0 := hfld 0 _ rfl
            have g1 := hfld 1 _ rfl
            have g2 := hfld 2 _ rfl
            have g3 := hfld 3 _ rfl
            simp [Try.cells3, Try.cells9] at g0 g1 g2 g3
            obtain ⟨z0, e0, d0, w0⟩ := DataW.trod_int Try.underlying3 g0
            obtain ⟨z1, e1, d1, w1⟩ := DataW.trod_int Try.underlying3 g1
            obtain ⟨s2, e2, d2, _⟩ := DataW.trod_string Try.underlying9 g2
            obtain ⟨s3, e3, d3, _⟩ := DataW.trod_string Try.underlying9 g3
            simp only [List.cons.injEq, and_true] at e0 e1 e2 e3
            subst e0 e1 e2 e3 d0 d1 d2 d3
            have hD : D i = .agg [.lit (.int .i64 z0), .lit (.int .i64 z1), .lit (.string s2.data.toList), .lit (.string s3.data.toList)] := congrArg Prod.fst hxy
            have hin : ∀ x ∈ (D i).weights Try.prog 45, x ≤ reachBytes := fun x hx => hwt x (by
              simp only [DataW.weights, Try.underlying39, List.mem_cons, List.mem_append]
              exact Or.inr (Or.inl (mem_all hi x hx)))
            have b2 := hin s2.data.toList.length (by simp [hD, DataW.weights, Try.underlying45, DataW.weightsEach])
            have b3 := hin s3.data.toList.length (by simp [hD, DataW.weights, Try.underlying45, DataW.weightsEach])
            have b2' := reach_le b2
            have b3' := reach_le b3
            rw [bsz] at b2' b3'
            have q0 := wf_i64 w0
            have q1 := wf_i64 w1
            have r0 := hcell 0 (by omega)
            have r1 := hcell 1 (by omega)
            have r2 := hcell 2 (by omega)
            have r3 := hcell 3 (by omega)
            rw [Go.Deep.add_add] at r0 r1 r2 r3
            exact ⟨⟨z0, z1, s2, s3⟩, fun _ => ⟨⟨by simpa using r0, by simpa using r1, by simpa using r2, by simpa using r3⟩, ⟨q0.1, q0.2, q1.1, q1.2, Nat.le_trans b2' (by decide), Nat.le_trans b3' (by decide)⟩⟩⟩
      · exact ⟨⟨0, 0, ⟨#[]⟩, ⟨#[]⟩⟩, fun h => absurd h hi⟩
    obtain ⟨f, hf2⟩ := Classical.skolem.1 each
    have hlen : ((List.range len).map f).length = len := by simp
    refine ⟨(List.range len).map f, ⟨some a, m, by rw [hlen], fun hp => ?_⟩, fun x hx => ?_, ?_⟩
    · rw [hlen] at hp
      have h0 := (hf2 0 hp).1.1
      rw [Nat.zero_mul] at h0
      obtain ⟨b, off, rfl⟩ := plain_at h0
      refine ⟨b, off, rfl, fun j hj => ?_⟩
      rw [hlen] at hj
      obtain ⟨⟨r0, r1, r2, r3⟩, _⟩ := hf2 j hj
      simp only [Addr.add_mid] at r0 r1 r2 r3
      simp only [List.getElem_map, List.getElem_range]
      exact ⟨r0, r1, r2, r3⟩
    · obtain ⟨j, hj, rfl⟩ := List.mem_map.1 hx
      exact (hf2 j (List.mem_range.1 hj)).2
    · rw [hlen]; unfold maxLen at hm; omega
end Go.Proofs.Ytbifmhbkmnofiaa
