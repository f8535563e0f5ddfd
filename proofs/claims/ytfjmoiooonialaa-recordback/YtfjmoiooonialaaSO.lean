/- A row of bytes that is the call's own: made out of a text, grown by texts, made a text again. -/
import Derived.Test.YtfjmoiooonialaaSN
namespace Go.Proofs.Ytfjmoiooonialaa
open Go.ChangeShapes Go.WideShapes Go.ChangeAt Go.RowKit
set_option linter.unusedVariables false

/-- The slice v is the call's own row of the bytes l. -/
def OwnE (w : World) (base : Nat) (v : Value) (l : List UInt8) : Prop :=
  ∃ g cap cur fz, v = .slice (some ⟨g, 0, none⟩) l.length cap ∧ base ≤ g ∧ w.heap[g]? = some (.cells cur 5 fz) ∧ Open fz l.length cur.size ∧ l.length ≤ cap ∧ cap ≤ maxLen ∧ cur.size = cap ∧ cur.toList.take l.length = bcs l

theorem OwnE.later {w w' : World} {base B : Nat} {v : Value} {l : List UInt8} (h : OwnE w base v l) (hb : Below w.heap.size w w') : OwnE w' base v l := by
  obtain ⟨g, cap, cur, fz, h1, h2, h3, h4⟩ := h
  exact ⟨g, cap, cur, fz, h1, h2, by rw [hb.block g (Array.getElem?_eq_some_iff.1 h3).1]; exact h3, h4⟩

theorem OwnE.lt {w : World} {base : Nat} {v : Value} {l : List UInt8} (h : OwnE w base v l) (k : Nat) (hk : w.heap.size ≤ k) : v.ownBlock ≠ some k := by
  obtain ⟨g, cap, cur, fz, rfl, h2, h3, h4⟩ := h
  have := (Array.getElem?_eq_some_iff.1 h3).1
  intro e
  simp only [Value.ownBlock, Option.some.injEq] at e
  omega
theorem strCells_bcs (s : ByteArray) : Lib.strCells s = bcs s.data.toList := rfl

theorem app_text (w : World) (base : Nat) (v : Value) (l : List UInt8) (s : ByteArray) (ty : TypeId) (hown : OwnE w base v l) (hl : l.length + s.size ≤ 100000) (hbase : base ≤ w.heap.size) :
    ∃ v' w', (Builtin.append_ #[42, 9] ty #[v, .string s]).run Try.prog w = .ok v' w' ∧ OwnE w' base v' (l ++ s.data.toList) ∧ Below base w w' ∧ (∀ k, k < w.heap.size → v.ownBlock ≠ some k → w'.heap[k]? = w.heap[k]? ∧ v'.ownBlock ≠ some k) := by
  obtain ⟨g, cap, cur, fz, rfl, hbg, hg, ho, hnc, hcm, hcs, htake⟩ := hown
  obtain ⟨i0, hi0, hz0, hz1, hz2⟩ := info_parts info5'
  have hsl : s.data.toList.length = s.size := by simp
  have hbl : (bcs l).length = l.length := length_bcs l
  by_cases hroom : l.length + s.size ≤ cap
  · have hst := store_open g l.length 5 fz (Lib.strCells s) (Lib.strCells_oneCell s) 0 cur w hg ho (by rw [Lib.strCells_length]; omega)
    rw [Nat.add_zero, Lib.strCells_length] at hst
    have hf := Lib.run_firstCells_string (P := Try.prog) w 1 s
    have hr : (Builtin.append_ #[42, 9] ty #[.slice (some ⟨g, 0, none⟩) l.length cap, .string s]).run Try.prog w = .ok (.slice (some ⟨g, 0, none⟩) (l.length + s.size) cap) (w.setRow g (cur.toList.take l.length ++ Lib.strCells s ++ cur.toList.drop (l.length + s.size)).toArray) := by
      simp [Builtin.append_, run_underlying Try.underlying42, run_underlying Try.underlying9, sizeOf, typeInfo, hi0, hz1, Builtin.lenOf, hroom, hf, Addr.add_lit, hst]
    refine ⟨_, _, hr, ⟨g, cap, _, fz, by rw [List.length_append, hsl], hbg, setRow_heap w g cur _ 5 _ hg, ?_, by rw [List.length_append, hsl]; exact hroom, hcm, ?_, ?_⟩, ⟨rfl, rfl, rfl, by simp, fun k hk => setRow_other w g k _ (by omega)⟩, fun k _ hne => ⟨setRow_other w g k _ (fun e => hne (by simp [Value.ownBlock, e])), fun e => hne (by simpa [Value.ownBlock] using e)⟩⟩
    · have hz : (cur.toList.take l.length ++ Lib.strCells s ++ cur.toList.drop (l.length + s.size)).toArray.size = cur.size := by
        simp only [List.size_toArray, List.length_append, List.length_take, List.length_drop, Array.length_toList, Lib.strCells_length]
        omega
      rw [hz, List.length_append, hsl]
      rcases ho with h | h
      · exact .inl (by omega)
      · exact .inr h
    · simp only [List.size_toArray, List.length_append, List.length_take, List.length_drop, Array.length_toList, Lib.strCells_length]
      omega
    · rw [htake, strCells_bcs, ← bcs_append]
      have : (l ++ s.data.toList).length = (bcs (l ++ s.data.toList)).length := (length_bcs _).symm
      rw [this]
      exact List.take_left
  · have holds : ∀ j u, (bcs l)[j]? = some u → w.cell? ((⟨g, 0, none⟩ : Addr).add j) = some u := by
      intro j u hu
      rw [add_plain, Nat.zero_add]
      rw [← htake, List.getElem?_take] at hu
      split at hu
      · have : w.cell? ⟨g, j, none⟩ = cur[j]? := by unfold World.cell?; simp only [hg]; rfl
        rw [this]
        simpa using hu
      · cases hu
    have hr := Lib.run_append_grow_string (P := Try.prog) w 42 9 ty 5 i0 (.int .u8 0) Try.underlying42 Try.underlying9 hi0 hz0 ⟨g, 0, none⟩ l.length cap (bcs l) (by rw [hz1]; omega) holds s (by omega) (by omega) (by rw [hz2]; exact growslice_fits (by omega) (by omega))
    have hge := grownCap_ge w (l.length + s.size) cap 5
    have hcm2 : grownCap w (l.length + s.size) cap 5 ≤ maxLen := grownCap_le_maxLen w (l.length + s.size) cap 5 (by simp only [maxLen]; omega)
    refine ⟨_, _, hr, ⟨w.heap.size, _, _, (0, 0), by rw [List.length_append, hsl], hbase, blk_new w.drew _, .inl (Nat.zero_le _), by rw [List.length_append, hsl]; exact hge, hcm2, ?_, ?_⟩, ((Below.refl base w).drew).alloc hbase _, fun k hk _ => ⟨Below.heap_alloc w.drew _ k hk, fun e => by simp [Value.ownBlock] at e; omega⟩⟩
    · have hz : (Value.int IntKind.u8 0).cells.size = 1 := rfl
      simp only [Array.size_append, List.size_toArray, size_zeroCells, hz, hbl, Lib.strCells_length]
      omega
    · rw [strCells_bcs]
      simp only [Array.toList_append]
      rw [← bcs_append]
      have : (l ++ s.data.toList).length = (bcs (l ++ s.data.toList)).length := (length_bcs _).symm
      rw [this]
      exact List.take_left
end Go.Proofs.Ytfjmoiooonialaa
