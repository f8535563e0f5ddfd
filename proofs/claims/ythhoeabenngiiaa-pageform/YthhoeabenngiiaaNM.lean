/- Cut of any page; Lay of any row; parts of a row. -/
import Derived.Test.YthhoeabenngiiaaNL
namespace Go.Proofs.Ythhoeabenngiiaa
open Go.ChangeShapes Go.WideShapes Go.ChangeAt Go.RowKit
set_option linter.unusedVariables false

open Classical in
noncomputable def cuE (l : List UInt8) (i : Int) : Int := if okB l then (if i < 0 ∨ (byt l 1 : Int) < i then 4 else 0) else 8
open Classical in
noncomputable def cuA (l : List UInt8) (i : Int) : List UInt8 := if okB l ∧ ¬ (i < 0 ∨ (byt l 1 : Int) < i) then tl (byt l 0) 0 i.toNat (cellS l) else zs
open Classical in
noncomputable def cuB (l : List UInt8) (i : Int) : List UInt8 := if okB l ∧ ¬ (i < 0 ∨ (byt l 1 : Int) < i) then tl (byt l 0) (lnk l) (byt l 1 - i.toNat) (fun t => cellS l (i.toNat + t)) else zs
theorem cuA_length (l : List UInt8) (i : Int) : (cuA l i).length = 256 := by
  unfold cuA
  split
  · exact tl_length _ _ _ _
  · exact zs_length
theorem cuB_length (l : List UInt8) (i : Int) : (cuB l i).length = 256 := by
  unfold cuB
  split
  · exact tl_length _ _ _ _
  · exact zs_length
theorem cut_any (l : List UInt8) (hl : l.length = 256) (i : Int) (w : World) :
    Calls Try.prog 26 #[.agg (bc l), .int .i64 i] w fun e w' => e = .returned (.tuple #[.agg (bc (cuA l i)), .agg (bc (cuB l i)), .int .i64 (cuE l i)]) ∧ Below w.heap.size w w' := by
  unfold cuA cuB cuE
  by_cases ho : okB l
  · have hcv : cntV l = byt l 1 := if_pos ho
    by_cases hi : i < 0 ∨ (byt l 1 : Int) < i
    · rw [if_neg (fun h => h.2 hi), if_neg (fun h => h.2 hi), if_pos ho, if_pos hi]
      exact cut_bad l hl i 4 (by unfold plE; rw [if_pos ho, hcv, if_pos hi]) (by omega) w
    · rw [if_pos ⟨ho, hi⟩, if_pos ⟨ho, hi⟩, if_pos ho, if_neg hi]
      obtain ⟨m, rfl⟩ : ∃ m : Nat, i = (m : Int) := ⟨i.toNat, by omega⟩
      rw [Int.toNat_natCast]
      exact cut_ok l hl ho m (by omega) w
  · rw [if_neg (fun h => ho h.1), if_neg (fun h => ho h.1), if_neg ho]
    exact cut_bad l hl i 8 (by unfold plE; rw [if_neg ho]) (by omega) w

/-- A row of texts that may begin anywhere in its block. -/
def StrO (w : World) (p : Option Addr) (n : Nat) (S : Nat → ByteArray) : Prop := 0 < n → ∃ g o, p = some ⟨g, o, none⟩ ∧ StrAt w g o n S
theorem StrO.later {w w' : World} {p : Option Addr} {n : Nat} {S : Nat → ByteArray} (h : StrO w p n S) (hb : Below w.heap.size w w') : StrO w' p n S := fun h0 => let ⟨g, o, hg, hs⟩ := h h0; ⟨g, o, hg, hs.later hb⟩
theorem lay_any (is : Bool) (k L : Nat) (hk : k < 256) (hL : L < 4294967296) (p : Option Addr) (n cap : Nat) (S : Nat → ByteArray) (hs : n + (cat S n).length ≤ 250) (w : World) (h : StrO w p n S) :
    Calls Try.prog 28 #[bodyV is (k : Int) (L : Int) (.slice p n cap)] w fun e w' => e = .returned (.agg (bc (tl k L n S))) ∧ Below w.heap.size w w' := by
  unfold tl
  rw [if_pos hs]
  by_cases h0 : n = 0
  · subst h0
    exact rlay_nil is k L hk hL p cap w
  · obtain ⟨g, o, rfl, hst⟩ := h (by omega)
    exact rlay_walk is k L hk hL g o n cap S hs w hst
theorem slice_head (p : Option Addr) (len cap m : Nat) (hm : m ≤ len) (hc : len ≤ cap) :
    ∃ p', (∀ W, (Instr.slice 25 (.slice p len cap) none (some (.int .i64 (m : Int))) none).run Try.prog W = .ok (.slice p' m cap) W) ∧ ∀ W S, StrP W p len S → StrO W p' m S := by
  refine ⟨if cap = 0 then p else p.map (·.add (0 * 1)), fun W => ?_, fun W S h h0 => ?_⟩
  · rw [run_slice_h W 25 p len cap (by rw [show Try.prog.elem 25 = 9 by simp [Program.elem]]; exact strs_elem) .i64 _ (by omega) (by omega), show Try.prog.elem 25 = 9 by simp [Program.elem], size9]
    simp only [Result.andThen, sliced, Nat.sub_zero, Int.toNat_natCast]
  · obtain ⟨g, rfl, hs⟩ := h (by omega)
    refine ⟨g, 0, ?_, fun t ht => hs t (by omega)⟩
    rw [if_neg (by omega)]
    simp [Addr.add]
theorem slice_tail (p : Option Addr) (len cap m : Nat) (hm : m ≤ len) (hc : len ≤ cap) :
    ∃ p', (∀ W, (Instr.slice 25 (.slice p len cap) (some (.int .i64 (m : Int))) none none).run Try.prog W = .ok (.slice p' (len - m) (cap - m)) W) ∧ ∀ W S, StrP W p len S → StrO W p' (len - m) (fun t => S (m + t)) := by
  refine ⟨if cap = m then p else p.map (·.add (m * 1)), fun W => ?_, fun W S h h0 => ?_⟩
  · rw [run_slice_l W 25 p len cap (by rw [show Try.prog.elem 25 = 9 by simp [Program.elem]]; exact strs_elem) .i64 _ (by omega) (by omega), show Try.prog.elem 25 = 9 by simp [Program.elem], size9]
    simp only [Result.andThen, sliced, Int.toNat_natCast]
  · obtain ⟨g, rfl, hs⟩ := h (by omega)
    refine ⟨g, m, ?_, fun t ht => ?_⟩
    · rw [if_neg (by omega)]
      simp only [Option.map_some]
      congr 1
      unfold Addr.add
      split <;> simp_all
    · have := hs (m + t) (by omega)
      rwa [Nat.zero_add] at this
/-- A body, stored whole. -/
theorem step_storeB {ops : Array Oper} {o : Oper} {a : Act} {w : World} {K : Act → World → Prop} {Q : Exit → Act → World → Prop} {E : Prop} {g : Nat} {x0 x1 x2 x3 y0 y1 y2 y3 : Value} (hg : w.heap[g]? = some (.cells #[y0, y1, y2, y3] 27)) (x y : Operand)
    (h1 : x0.oneCell' = true) (h2 : x1.oneCell' = true) (h3 : x2.oneCell' = true) (h4 : x3.oneCell' = true)
    (hgd : o.guard = none) (ho : o.op = .store 27 x y) (hx : a.eval x = .pointer (some ⟨g, 0, none⟩)) (hy : a.eval y = .agg #[x0, x1, x2, x3])
    (h : ∀ W', W'.heap[g]? = some (.cells #[x0, x1, x2, x3] 27) → (∀ B A, Below B A w → B ≤ g → Below B A W') → (∀ k, k ≠ g → W'.heap[k]? = w.heap[k]?) → K (a.put o.dst undef) W') : if Region.wanted o (yielded ops a.tmps) = true then Oper.wp Try.prog o a w K Q else E := by
  have hw : Region.wanted o (yielded ops a.tmps) = true := by simp [Region.wanted, hgd]
  rw [if_pos hw]
  refine wp_store_row 27 x y ho g #[x0, x1, x2, x3] hx hy 27 #[y0, y1, y2, y3] hg body_size rfl ?_ (h _ (setRow_heap w g _ _ _ _ hg) (fun B A hb hB => below_setRow hb hB _) (fun k hk => heap_setRow _ _ _ _ hk))
  simp [h1, h2, h3, h4]
end Go.Proofs.Ythhoeabenngiiaa
