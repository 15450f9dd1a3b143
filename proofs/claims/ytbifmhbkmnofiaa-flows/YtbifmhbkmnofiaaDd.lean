import Derived.Test.YtbifmhbkmnofiaaDc
namespace Go.Proofs.Ytbifmhbkmnofiaa
open Go.RowKit
set_option linter.unusedVariables false
def KT : List Int := [1116352408, 1899447441, 3049323471, 3921009573, 961987163, 1508970993, 2453635748, 2870763221, 3624381080, 310598401, 607225278, 1426881987, 1925078388, 2162078206, 2614888103, 3248222580, 3835390401, 4022224774, 264347078, 604807628, 770255983, 1249150122, 1555081692, 1996064986, 2554220882, 2821834349, 2952996808, 3210313671, 3336571891, 3584528711, 113926993, 338241895, 666307205, 773529912, 1294757372, 1396182291, 1695183700, 1986661051, 2177026350, 2456956037, 2730485921, 2820302411, 3259730800, 3345764771, 3516065817, 3600352804, 4094571909, 275423344, 430227734, 506948616, 659060556, 883997877, 958139571, 1322822218, 1537002063, 1747873779, 1955562222, 2024104815, 2227730452, 2361852424, 2428436474, 2756734187, 3204031479, 3329325298]
def HT : List Int := [1779033703, 3144134277, 1013904242, 2773480762, 1359893119, 2600822924, 528734635, 1541459225]
theorem wpList_build_eq {ops : Array Oper} {rest : List Oper} {o : Oper} {a : Act} {w : World} {Q : Exit → Act → World → Prop} (hg : o.guard = none) (t : TypeId) (parts : Array (Nat × Operand)) (ho : o.op = .build t parts) (cs : Array Value)
    (hf : Try.prog.built t (parts.map fun (i, x) => (i, a.eval x)).toList = some cs)
    (h : wpList Try.prog ops Q rest (a.put o.dst (.agg cs)) w) : wpList Try.prog ops Q (o :: rest) a w :=
  wpList_build hg t parts ho (by rw [hf]; rfl) (by rw [hf]; exact h)
set_option maxRecDepth 20000 in
set_option maxHeartbeats 400000 in
theorem roundTable_any (w : World) : Calls Try.prog 60 #[] w fun e w' => e = .returned (.agg (ints .u32 KT)) ∧ Below w.heap.size w w' := by
  go_enter Try.func60, Try.ntmps60
  go_wp2_with (first
    | refine wpList_alloc_eq rfl 129 rfl (ints .u32 Z64) Try.alloc129 ?_
    | refine wpList_build_eq rfl 129 _ rfl (ints .u32 KT) (by kernel_rfl) ?_
    | refine wpList_store_row rfl 129 _ _ rfl w.heap.size (ints .u32 KT) rfl rfl 129 (ints .u32 Z64) (al_new _ _) Try.info129 rfl (ints_one _ _) ?_)
  exact bodyPost_ret (results_cell_row (fn := Try.f60) Try.results60 _ _ w.heap.size 129 (ints .u32 KT) (0,0) _ rfl (setRow_heap _ _ _ _ _ _ (al_new _ _)) Try.underlying129 rfl Try.info129) rfl ⟨rfl, below_setRow ((Below.refl _ _).alloc (Nat.le_refl _) _) _ (Nat.le_refl _) _⟩
set_option maxRecDepth 20000 in
set_option maxHeartbeats 400000 in
theorem startTable_any (w : World) : Calls Try.prog 53 #[] w fun e w' => e = .returned (.agg (ints .u32 HT)) ∧ Below w.heap.size w w' := by
  go_enter Try.func53, Try.ntmps53
  go_wp2_with (first
    | refine wpList_alloc_eq rfl 72 rfl (ints .u32 Z8) Try.alloc72 ?_
    | refine wpList_build_eq rfl 72 _ rfl (ints .u32 HT) (by kernel_rfl) ?_
    | refine wpList_store_row rfl 72 _ _ rfl w.heap.size (ints .u32 HT) rfl rfl 72 (ints .u32 Z8) (al_new _ _) Try.info72 rfl (ints_one _ _) ?_)
  exact bodyPost_ret (results_cell_row (fn := Try.f53) Try.results53 _ _ w.heap.size 72 (ints .u32 HT) (0,0) _ rfl (setRow_heap _ _ _ _ _ _ (al_new _ _)) Try.underlying72 rfl Try.info72) rfl ⟨rfl, below_setRow ((Below.refl _ _).alloc (Nat.le_refl _) _) _ (Nat.le_refl _) _⟩
end Go.Proofs.Ytbifmhbkmnofiaa
