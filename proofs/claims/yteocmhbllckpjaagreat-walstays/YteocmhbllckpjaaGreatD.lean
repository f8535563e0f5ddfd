/- Contracts of a file's put over whatever world. -/
import Derived.Test.YteocmhbllckpjaaGreatB
namespace Go.Proofs.YteocmhbllckpjaaGreat
open Go.ChangeShapes Go.WideShapes Go.ChangeAt Go.RowKit
set_option linter.unusedVariables false

theorem bytes_size : (Tryz.prog.info? 5).map (·.size) = some 1 := by kernel_rfl

theorem length_splice' {α : Type} (l : List α) (o : Nat) (d : List α) (h : o + d.length ≤ l.length) : (splice l o d).length = l.length := length_splice l o d h

theorem bcs_splice (l : List UInt8) (o : Nat) (d : List UInt8) : bcs (splice l o d) = splice (bcs l) o (bcs d) := by
  simp [splice, bcs, List.map_take, List.map_drop]

theorem splice_take {α : Type} (cur : List α) (n o : Nat) (d : List α) (h : o + d.length ≤ n) (hn : n ≤ cur.length) : (splice cur o d).take n = splice (cur.take n) o d := by
  unfold splice
  have h1 : (List.take o cur).length = o := by simp; omega
  rw [List.take_append, List.take_append, h1, List.take_of_length_le (i := n) (l := List.take o cur) (by omega), List.take_of_length_le (l := d) (by omega), List.take_take, List.drop_take, show min o n = o by omega]
  congr 3
  omega

set_option maxRecDepth 100000 in
theorem put_at (w : World) (b o : Nat) (c : Array Value) (t : TypeId) (base : Nat) (v : Value) (l d : List UInt8) (at_ : Nat) (ad : Addr) (dc : Nat) (hb : Blk w b c t) (hc : c[o]? = some v) (hown : Own w base v l)
    (hat : at_ < l.length) (hl : l.length ≤ 1048576) (hd : ∀ j u, (bcs d)[j]? = some u → w.cell? (ad.add j) = some u) :
    Calls Tryz.prog 98 #[.pointer (some ⟨b, o, none⟩), .int .i64 at_, .slice (some ad) d.length dc] w fun e w' => e = .returned (.tuple #[]) ∧
      Own w' base v (splice l at_ (d.take (l.length - at_))) ∧ w.grownBy w' v.ownBlock := by
  have h0 : w.cell? ⟨b, o, none⟩ = some v := (hb.cell o).trans hc
  rcases hown.2 with ⟨rfl, hz⟩ | ⟨g, cap, cur, rfl, hbg, hg, hnc, hcm, hcs, htake⟩
  · omega
  · have h1 : (at_ : Int) < (l.length : Int) := by omega
    have h2 : (l.length : Int) ≤ (cap : Int) := by omega
    have h3 : (at_ : Int) ≤ (l.length : Int) := by omega
    have h4 : at_ < cap := by omega
    clear hb
    unfold maxLen at hcm
    go_enter Tryz.func98, Tryz.ntmps98
    have hcl : ((bcs d).take (l.length - at_)).length = min (l.length - at_) d.length := by simp [length_bcs]
    have hcp := run_copy_row (P := Tryz.prog) w 62 62 3 5 g at_ (l.length - at_) (cap - at_) ad d.length dc cur 5 ((bcs d).take (l.length - at_)) Tryz.underlying62 bytes_size hg (by rw [hcl]; exact Nat.min_comm _ _)
      (fun j u hj => hd j u (by rw [List.getElem?_take] at hj; split at hj; exact hj; cases hj)) (by rw [hcl]; omega) (fun u hu => one_bcs d u (List.mem_of_mem_take hu))
    have HT : Hid (List.take (l.length * 1) cur.toList = bcs l) := htake
    have HS : Hid (cur.size = cap * 1) := hcs
    have HG : Hid (w.heap[g]? = some (.cells cur 5 (0, 0))) := hg
    clear hd htake hcs hown hc hg
    have HL : Hid (((bcs d).take (l.length - at_)).length = min (l.length - at_) d.length) := hcl
    clear hcl
    go_wp2
    go_end0
    refine ⟨rfl, ?_, ⟨rfl, rfl, rfl, by simp, fun j _ hj => setRow_other w g j _ (fun e => hj (by simp [Value.ownBlock, e]))⟩⟩
    have hdl : (d.take (l.length - at_)).length = min (l.length - at_) d.length := by simp
    have hsl : (splice l at_ (d.take (l.length - at_))).length = l.length := length_splice _ _ _ (by rw [hdl]; omega)
    refine ⟨by rw [length_bcs, Nat.mul_one], .inr ⟨g, cap, _, by rw [hsl], hbg, setRow_heap w g cur _ 5 _ HG.out, by rw [hsl]; exact hnc, by simpa [maxLen] using hcm, ?_, ?_⟩⟩
    · have := HS.out; have := HL.out; simp at *; omega
    · have hT := HT.out
      have hS := HS.out
      have hL := HL.out
      rw [hsl, bcs_splice, ← hT, ← splice_take _ _ _ _ (by rw [length_bcs, hdl]; omega) (by simp; omega)]
      congr 1
      simp [splice, bcs]

end Go.Proofs.YteocmhbllckpjaaGreat
