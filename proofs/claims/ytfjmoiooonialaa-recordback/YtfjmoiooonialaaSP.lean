/- The same for one byte; the operations, for the walk; texts made bytes and back. -/
import Derived.Test.YtfjmoiooonialaaSO
namespace Go.Proofs.Ytfjmoiooonialaa
open Go.ChangeShapes Go.WideShapes Go.ChangeAt Go.RowKit
set_option linter.unusedVariables false

theorem app_byte (w : World) (base : Nat) (v : Value) (l : List UInt8) (x : UInt8) (ty : TypeId) (a : Addr) (hx : w.cell? a = some (.int .u8 (x.toNat : Int))) (hown : OwnE w base v l) (hl : l.length ≤ 100000) (hbase : base ≤ w.heap.size) :
    ∃ v' w', (Builtin.append_ #[42, 42] ty #[v, .slice (some a) 1 1]).run Try.prog w = .ok v' w' ∧ OwnE w' base v' (l ++ [x]) ∧ Below base w w' ∧ (∀ k, k < w.heap.size → v.ownBlock ≠ some k → w'.heap[k]? = w.heap[k]? ∧ v'.ownBlock ≠ some k) := by
  obtain ⟨g, cap, cur, fz, rfl, hbg, hg, ho, hnc, hcm, hcs, htake⟩ := hown
  obtain ⟨i0, hi0, hz0, hz1, hz2⟩ := info_parts info5'
  have hbl : (bcs l).length = l.length := length_bcs l
  have hnews : ∀ j u, (bcs [x])[j]? = some u → w.cell? (a.add j) = some u := by
    intro j u hu
    have hj : j = 0 := by
      rcases j with _ | j
      · rfl
      · simp [bcs] at hu
    subst hj
    have ha : a.add 0 = a := by unfold Addr.add; split <;> simp_all
    rw [ha, hx]
    simpa [bcs] using hu
  have hone : ∀ u ∈ bcs [x], u.oneCell' = true := by
    intro u hu
    have : u = .int .u8 (x.toNat : Int) := by simpa [bcs] using hu
    subst this; rfl
  by_cases hroom : l.length + 1 ≤ cap
  · have hst := store_open g l.length 5 fz (bcs [x]) hone 0 cur w hg ho (by rw [length_bcs]; simp; omega)
    rw [Nat.add_zero, length_bcs, show [x].length = 1 from rfl] at hst
    have hf := run_firstCells_some (P := Try.prog) w 1 1 a 1 1 (bcs [x]) (by simp [length_bcs]) hnews
    have hr : (Builtin.append_ #[42, 42] ty #[.slice (some ⟨g, 0, none⟩) l.length cap, .slice (some a) 1 1]).run Try.prog w = .ok (.slice (some ⟨g, 0, none⟩) (l.length + 1) cap) (w.setRow g (cur.toList.take l.length ++ bcs [x] ++ cur.toList.drop (l.length + 1)).toArray) := by
      simp [Builtin.append_, run_underlying Try.underlying42, sizeOf, typeInfo, hi0, hz1, Builtin.lenOf, hroom, hf, Addr.add_lit, hst]
    refine ⟨_, _, hr, ⟨g, cap, _, fz, by rw [List.length_append]; rfl, hbg, setRow_heap w g cur _ 5 _ hg, ?_, by rw [List.length_append]; exact hroom, hcm, ?_, ?_⟩, ⟨rfl, rfl, rfl, by simp, fun k hk => setRow_other w g k _ (by omega)⟩, fun k _ hne => ⟨setRow_other w g k _ (fun e => hne (by simp [Value.ownBlock, e])), fun e => hne (by simpa [Value.ownBlock] using e)⟩⟩
    · have hz : (cur.toList.take l.length ++ bcs [x] ++ cur.toList.drop (l.length + 1)).toArray.size = cur.size := by
        simp only [List.size_toArray, List.length_append, List.length_take, List.length_drop, Array.length_toList, length_bcs, List.length_singleton]
        omega
      rw [hz, List.length_append]
      rcases ho with h | h
      · exact .inl (by omega)
      · exact .inr h
    · simp only [List.size_toArray, List.length_append, List.length_take, List.length_drop, Array.length_toList, length_bcs, List.length_singleton]
      omega
    · rw [htake, ← bcs_append]
      have : (l ++ [x]).length = (bcs (l ++ [x])).length := (length_bcs _).symm
      rw [this]
      exact List.take_left
  · have holds : ∀ j u, (bcs l)[j]? = some u → w.cell? ((⟨g, 0, none⟩ : Addr).add j) = some u := by
      intro j u hu
      rw [add_plain, Nat.zero_add]
      rw [← htake, List.getElem?_take] at hu
      split at hu
      · have : w.cell? ⟨g, j, none⟩ = cur[j]? := by unfold World.cell?; simp only [hg]; rfl
        rw [this]
        simpa using hu
      · cases hu
    have hr := run_append_grow (P := Try.prog) w 42 ty 5 i0 (.int .u8 0) Try.underlying42 hi0 hz0 ⟨g, 0, none⟩ l.length cap (bcs l) (by rw [hz1]; omega) holds a 1 1 (bcs [x]) (by rw [hz1]; simp [length_bcs]) hnews (by omega) (by omega) (by rw [hz2]; exact growslice_fits (by omega) (by omega))
    have hge := grownCap_ge w (l.length + 1) cap 5
    have hcm2 : grownCap w (l.length + 1) cap 5 ≤ maxLen := grownCap_le_maxLen w (l.length + 1) cap 5 (by simp only [maxLen]; omega)
    refine ⟨_, _, hr, ⟨w.heap.size, _, _, (0, 0), by rw [List.length_append]; rfl, hbase, blk_new w.drew _, .inl (Nat.zero_le _), by rw [List.length_append]; exact hge, hcm2, ?_, ?_⟩, ((Below.refl base w).drew).alloc hbase _, fun k hk _ => ⟨Below.heap_alloc w.drew _ k hk, fun e => by simp [Value.ownBlock] at e; omega⟩⟩
    · have hz : (Value.int IntKind.u8 0).cells.size = 1 := rfl
      simp only [Array.size_append, List.size_toArray, size_zeroCells, hz, hbl, length_bcs, List.length_singleton]
      omega
    · simp only [Array.toList_append]
      rw [← bcs_append]
      have : (l ++ [x]).length = (bcs (l ++ [x])).length := (length_bcs _).symm
      rw [this]
      exact List.take_left

theorem wp_text {ops : Array Oper} {rest : List Oper} {o : Oper} {a : Act} {Q : Exit → Act → World → Prop} {w : World} (hgd : o.guard = none) (sl x : Operand)
    (ho : o.op = .call { callee := .builtin .append, args := #[sl, x], argTypes := #[42, 9] }) (base : Nat) (v : Value) (l : List UInt8) (s : ByteArray)
    (hs : a.eval sl = v) (hown : OwnE w base v l) (hx : a.eval x = .string s) (hl : l.length + s.size ≤ 100000) (hbase : base ≤ w.heap.size)
    (h : ∀ v' w', OwnE w' base v' (l ++ s.data.toList) → Below base w w' → (∀ k, k < w.heap.size → v.ownBlock ≠ some k → w'.heap[k]? = w.heap[k]? ∧ v'.ownBlock ≠ some k) → wpList Try.prog ops Q rest (a.put o.dst v') w') : wpList Try.prog ops Q (o :: rest) a w := by
  refine wpList_plain hgd fun K hK => ?_
  obtain ⟨v', w', hr, h2, h3, h4⟩ := app_text w base v l s o.type hown hl hbase
  unfold Oper.wp execOp
  simp only [ho, resolve, invoke, builtin, Sem.run_bind, Sem.run_pure, Result.andThen_ok, List.map_toArray, List.map_cons, List.map_nil, hs, hx, hr]
  exact hK _ _ (h v' w' h2 h3 h4)
theorem wp_byte {ops : Array Oper} {rest : List Oper} {o : Oper} {a : Act} {Q : Exit → Act → World → Prop} {w : World} (hgd : o.guard = none) (sl x : Operand)
    (ho : o.op = .call { callee := .builtin .append, args := #[sl, x], argTypes := #[42, 42] }) (base : Nat) (v : Value) (l : List UInt8) (b : UInt8) (C : Array Value) (hC : C = #[.int .u8 (b.toNat : Int)])
    (hs : a.eval sl = v) (hown : OwnE w base v l) (hx : a.eval x = .slice (some ⟨w.heap.size, 0, none⟩) 1 1) (hl : l.length ≤ 100000) (hbase : base ≤ w.heap.size)
    (h : ∀ v' w', OwnE w' base v' (l ++ [b]) → Below base w w' → (∀ k, k < w.heap.size → v.ownBlock ≠ some k → w'.heap[k]? = w.heap[k]? ∧ v'.ownBlock ≠ some k) → wpList Try.prog ops Q rest (a.put o.dst v') w') : wpList Try.prog ops Q (o :: rest) a (w.alloc (.cells C 5)) := by
  subst hC
  refine wpList_plain hgd fun K hK => ?_
  have hb : Below w.heap.size w (w.alloc (.cells #[.int .u8 (b.toNat : Int)] 5)) := new_below w _ rfl
  obtain ⟨v', w', hr, h2, h3, h4⟩ := app_byte (w.alloc (.cells #[.int .u8 (b.toNat : Int)] 5)) base v l b o.type ⟨w.heap.size, 0, none⟩ (block_cell (blk_new w _) 0) (hown.later (B := 0) hb) hl (by simp; omega)
  unfold Oper.wp execOp
  simp only [ho, resolve, invoke, builtin, Sem.run_bind, Sem.run_pure, Result.andThen_ok, List.map_toArray, List.map_cons, List.map_nil, hs, hx, hr]
  exact hK _ _ (h v' w' h2 ((((Below.refl base w).alloc hbase _)).trans h3) (fun k hk hne => ⟨(h4 k (by simp; omega) hne).1.trans (Below.heap_alloc w _ k hk), (h4 k (by simp; omega) hne).2⟩))

theorem conv_ownE {w : World} {base : Nat} {v : Value} {l : List UInt8} (h : OwnE w base v l) : (convert 42 9 v).run Try.prog w = .ok (.string ⟨l.toArray⟩) w := by
  obtain ⟨g, cap, cur, fz, rfl, hbg, hg, ho, hnc, hcm, hcs, htake⟩ := h
  refine run_convert_bytes_back w _ _ 5 ⟨g, 0, none⟩ cap l Try.underlying42 Try.underlying5 Try.underlying9 ?_
  intro j hj
  rw [add_plain, Nat.zero_add]
  have : w.cell? ⟨g, j, none⟩ = cur[j]? := by unfold World.cell?; simp only [hg]; rfl
  rw [this]
  have e := congrArg (fun z => z[j]?) htake
  simp only [List.getElem?_take] at e
  rw [if_pos hj] at e
  have e2 : (bcs l)[j]? = some (.int .u8 ((l[j]'hj).toNat : Int)) := by simp [bcs, hj]
  rw [e2] at e
  simpa using e
theorem made_ownE (w : World) (s : ByteArray) (h0 : 0 < s.size) (hs : s.size ≤ 100000) : OwnE (Lib.bytesWorld w 5 s) w.heap.size (.slice (some ⟨w.heap.size, 0, none⟩) s.size (grownCap w s.size 0 5)) s.data.toList ∧ Below w.heap.size w (Lib.bytesWorld w 5 s) := by
  have hsl : s.data.toList.length = s.size := by simp
  have hge := grownCap_ge w s.size 0 5
  refine ⟨⟨w.heap.size, _, _, _, by rw [hsl], Nat.le_refl _, Lib.bytesWorld_at_new w 5 s, .inr (Nat.le_refl _), by rw [hsl]; exact hge, grownCap_le_maxLen w s.size 0 5 (by simp only [maxLen]; omega), ?_, ?_⟩, ⟨rfl, rfl, rfl, by rw [Lib.bytesWorld_size]; omega, fun k hk => Lib.bytesWorld_at_old w 5 s k hk⟩⟩
  · unfold Lib.bytesCells
    simp only [Array.size_append, Array.size_map, Array.size_replicate]
    have : s.data.size = s.size := rfl
    omega
  · unfold Lib.bytesCells
    rw [Array.toList_append, hsl]
    have e : (s.data.map fun b => Value.int .u8 b.toNat).toList = bcs s.data.toList := by simp [bcs]
    rw [e, List.take_append_of_le_length (by rw [length_bcs, hsl]; exact Nat.le_refl _), List.take_of_length_le (by rw [length_bcs, hsl]; exact Nat.le_refl _)]
end Go.Proofs.Ytfjmoiooonialaa
