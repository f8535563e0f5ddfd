/- The text of a builder, and what it leaves as it was. -/
/- Package spill: the cells of a page of a chain: the state of the range over them. -/
import Derived.Test.YthgclfhfipfknaaGreatPMD
import Derived.Shelf.RegionOpen
import Derived.Test.YthgclfhfipfknaaGreatPME
namespace Go.Proofs.YthgclfhfipfknaaGreat
open Go.ChangeShapes Go.WideShapes Go.ChangeAt Go.RowKit Go.Maps Go.Shelf
set_option linter.unusedVariables false

theorem freeze_block (w : World) (p : Addr) (n k : Nat) (h : k ≠ p.block) : (w.freeze p n).heap[k]? = w.heap[k]? := by
  unfold World.freeze
  split
  · rfl
  · simp only [Array.getElem?_modify]
    rw [if_neg (Ne.symm h)]
theorem freeze_size (w : World) (p : Addr) (n : Nat) : (w.freeze p n).heap.size = w.heap.size := by
  unfold World.freeze
  split <;> simp
set_option maxHeartbeats 2000000 in
set_option maxRecDepth 100000 in
theorem bd_string (B b : Nat) (p : Value) (l : List UInt8) (w : World) (h : Lib.BuilderAt 203 5 B b p (Lib.byteCells l) w) (h0 : l ≠ []) :
    Calls Tryz.prog 108 #[.pointer (some ⟨b, 0, none⟩)] w fun e w' => e = .returned (.string ⟨l.toArray⟩) ∧ Below B w w' ∧ Fr 5 [] w w' := by
  obtain ⟨hB, v, hbk, hown, hne⟩ := h
  have hl0 : l.length ≠ 0 := by simpa using h0
  rw [Lib.byteCells_length] at hown
  obtain ⟨g, cap, cur, rfl, hbg, hg, hnc, hcm, hcs, htake⟩ : ∃ g cap cur, v = .slice (some ⟨g, 0, none⟩) l.length cap ∧ B ≤ g ∧ w.heap[g]? = some (.cells cur 5 (0, 0)) ∧ l.length ≤ cap ∧ cap ≤ maxLen ∧ cur.size = cap * 1 ∧ cur.toList.take (l.length * 1) = Lib.byteCells l := by
    rcases hown.2 with ⟨_, hz⟩ | ⟨g, cap, cur, hv, r⟩
    · exact absurd hz hl0
    · exact ⟨g, cap, cur, hv, r⟩
  have c1 : w.drew.cell? ⟨b, 1, none⟩ = some (.slice (some ⟨g, 0, none⟩) l.length cap) := by
    have : w.drew.heap[b]? = some (.cells #[p, .slice (some ⟨g, 0, none⟩) l.length cap] 203 (0, 0)) := hbk
    rw [Lib.cell_of_heap this]; rfl
  have hSD : (Builtin.unsafeSliceData_ #[88] 288 #[.slice (some ⟨g, 0, none⟩) l.length cap]).run Tryz.prog w.drew = .ok (.pointer (some ⟨g, 0, none⟩)) w.drew :=
    Lib.run_unsafeSliceData_row _ _ _ _ _ _ (by omega)
  have hUS : (Builtin.unsafeString_ #[288, 3] 9 #[.pointer (some ⟨g, 0, none⟩), .int .i64 l.length]).run Tryz.prog w.drew = .ok (.string ⟨l.toArray⟩) (w.drew.freeze ⟨g, 0, none⟩ l.length) := by
    refine Lib.run_unsafeString_row w.drew 288 3 9 5 Tryz.underlying288 Tryz.Builder_Extra_169.cellsByte g cur.size (by have hg' : w.drew.heap[g]? = some (.cells cur 5 (0, 0)) := hg; simp [World.shape?, hg']) l h0 (by omega) (by unfold maxLen at hcm; omega) ?_
    intro j x hx
    have := hown.cells (g := g) rfl j (.int .u8 x.toNat) (by simp [Lib.byteCells, hx])
    exact this
  go_enter Tryz.func108, Tryz.ntmps108
  go_wp2
  go_region
  all_goals
    go_wp2
    go_ret
    refine ⟨rfl, Lib.below_freeze (Below.drew (Below.refl B w)) (p := ⟨g, 0, none⟩) hbg _, ⟨by rw [freeze_size]; exact Nat.le_refl _, fun k hk _ hc => freeze_block w.drew _ _ k (fun e => ?_)⟩⟩
    subst e
    exact hc _ _ hg
end Go.Proofs.YthgclfhfipfknaaGreat

namespace Go.Proofs.YthgclfhfipfknaaGreat
open Go.ChangeShapes Go.WideShapes Go.ChangeAt Go.RowKit Go.Maps
set_option linter.unusedVariables false

theorem fin_range (c : Nat) : (List.finRange c).map (·.val) = List.range c := by
  apply List.ext_getElem
  · simp
  · intro i h1 h2
    simp
def FdJ (w : World) (b e sz : Nat) (v : Value) (G rs : List Nat) (pg z7 : Nat) (l : List UInt8) (left : Nat) (d : List UInt8) {c : Nat} (pre : List (Fin c)) (W : World) : Prop :=
  ∃ l' x, eat (cellS l) (pre.map (·.val)) left d = some (l', x) ∧ FdI w W b e sz l' x v G rs ∧ PAt W pg l ∧ PAt W z7 l
def FdX (w : World) (b e sz : Nat) (v : Value) (G rs : List Nat) (l : List UInt8) (left : Nat) (d : List UInt8) {c : Nat} (cd : Code) (pre : List (Fin c)) (W : World) : Prop :=
  cd = .exit 0 ∧ eat (cellS l) (pre.map (·.val)) left d = none ∧ ∃ l' x, l' ≠ 0 ∧ x.length + l' ≤ 4000 ∧ FdI w W b e sz l' x v G rs
theorem page_keep {X Y : World} {row : Option Nat} {g B : Nat} {l : List UInt8} (h : PAt X g l) (hg : X.grownBy Y row) (hr : ∀ r, row = some r → B ≤ r ∧ ∃ o : Obj, X.heap[r]? = some o ∧ o.isCells = false) : PAt Y g l :=
  (hg.block g (Array.getElem?_eq_some_iff.1 h).1 (fun e => by
    obtain ⟨_, o, ho, hc⟩ := hr g e.symm
    rw [show X.heap[g]? = _ from h] at ho; cases ho; cases hc)).trans h
theorem fdJ_own (w : World) (b e sz : Nat) (v : Value) (G rs : List Nat) (pg z7 : Nat) (l : List UInt8) (left : Nat) (d : List UInt8) {c B : Nat} (hlt : ∀ r ∈ rs, r < B) (hB : w.heap.size ≤ B) : OwnFrom B (FdJ w b e sz v G rs pg z7 l left d (c := c)) :=
  fun pre X Y row ⟨l', x, he, hi, hp, hq⟩ hg hr => ⟨l', x, he, hi.ownF hlt hg hr hB, page_keep hp hg hr, page_keep hq hg hr⟩
theorem fdX_own (w : World) (b e sz : Nat) (v : Value) (G rs : List Nat) (l : List UInt8) (left : Nat) (d : List UInt8) {c B : Nat} (cd : Code) (hlt : ∀ r ∈ rs, r < B) (hB : w.heap.size ≤ B) : OwnFrom B (FdX w b e sz v G rs l left d (c := c) cd) :=
  fun pre X Y row ⟨hc, he, l', x, h0, hl, hi⟩ hg hr => ⟨hc, he, l', x, h0, hl, hi.ownF hlt hg hr hB⟩
/-- A cell is written, and what is left is less. -/
theorem fdJ_next {w W w1 : World} {b e sz : Nat} {v : Value} {G rs : List Nat} {pg z7 : Nat} {l : List UInt8} {left : Nat} {d : List UInt8} {c l' : Nat} {x' : List UInt8} {pre : List (Fin c)} (x : Fin c) (he : eat (cellS l) (pre.map (·.val)) left d = some (l', x')) (hi : FdI w W b e sz l' x' v G rs) (hp : PAt W pg l) (hq : PAt W z7 l) (hs : (cellS l x.val).size = min l' 60) (hbp : b ≠ pg ∧ e ≠ pg ∧ b ≠ z7 ∧ e ≠ z7)
    (hbd : Lib.BuilderAt 203 5 b b (.pointer (some ⟨b, 0, none⟩)) (Lib.byteCells (x' ++ (cellS l x.val).data.toList)) w1) (hb : Below b W w1) (hf : Fr 5 [b] W w1) :
    FdJ w b e sz v G rs pg z7 l left d (pre ++ [x]) (w1.setCell ⟨e, 0, none⟩ (.int .i64 ((l' - (cellS l x.val).size : Nat) : Int))) ∧ (∀ B, KeepsFrom B W (w1.setCell ⟨e, 0, none⟩ (.int .i64 ((l' - (cellS l x.val).size : Nat) : Int)))) ∧ (w1.setCell ⟨e, 0, none⟩ (.int .i64 ((l' - (cellS l x.val).size : Nat) : Int))).heap[z7]? = W.heap[z7]? := by
  obtain ⟨n1, n2, n3, n4⟩ := hbp
  have k1 : PAt w1 pg l := hf.blk (c := bc l) hp (by decide) (by simp; omega)
  have k2 : PAt w1 z7 l := hf.blk (c := bc l) hq (by decide) (by simp; omega)
  have st : ∀ i (vv : Value), i ≠ e → (w1.setCell ⟨e, 0, none⟩ vv).heap[i]? = w1.heap[i]? := fun i vv hi => Below.heap_setCell _ _ _ _ hi
  refine ⟨⟨_, _, ?_, (hi.wrote hbd hb hf).setL _, (st pg _ (Ne.symm n2)).trans k1, (st z7 _ (Ne.symm n4)).trans k2⟩, fun B => ?_, ?_⟩
  · rw [List.map_append, List.map_cons, List.map_nil, eat_snoc, he]
    simp only [eatS, Option.bind_some, if_pos hs]
  · refine ⟨Nat.le_trans hf.size (by simp [World.setCell]), fun k o _ hk ho => ?_⟩
    have hkb : k ∉ [b] := by
      intro hm
      have hkb : k = b := by simpa using hm
      subst hkb
      obtain ⟨_, v0, h2', _⟩ := hi.bd
      rw [h2'] at hk; cases hk; cases ho
    have hke : k ≠ e := by
      rintro rfl
      rw [show W.heap[k]? = _ from hi.lf] at hk; cases hk; cases ho
    exact (st k _ hke).trans (hf.other hk ho hkb)
  · exact (st z7 _ (Ne.symm n4)).trans (show w1.heap[z7]? = W.heap[z7]? by rw [show w1.heap[z7]? = _ from k2, show W.heap[z7]? = _ from hq])
theorem fd_ex17 {t wz b e z nn : Nat} {v x : Value} {ds : List Deferred} {a : Act} (h : a = fdA t wz b e z (fun i => a.tmps.getD i undef) v nn ds) (hx : a.tmps.getD 17 undef = x) : ∃ u, a = fdA t wz b e z u v nn ds ∧ u 17 = x := ⟨_, h, hx⟩
theorem FdI.appP {w wr w' : World} {b e sz left pg : Nat} {d l : List UInt8} {v : Value} {G rs : List Nat} (h : FdI w wr b e sz left d v G rs) (hg : wr.grownBy w' v.ownBlock) (hp : PAt wr pg l) : PAt w' pg l := by
  refine (hg.block pg (Array.getElem?_eq_some_iff.1 hp).1 (fun e1 => ?_)).trans hp
  rcases h.own.2 with ⟨hv, _⟩ | ⟨g, cp, cur, hv, hge, hgg, _⟩
  · rw [hv] at e1; cases e1
  · rw [hv] at e1; simp only [Value.ownBlock, Option.some.injEq] at e1
    subst e1
    rw [show wr.heap[pg]? = _ from hp] at hgg
    injection hgg with e2; injection e2 with _ e3
    exact absurd e3 (by decide)
end Go.Proofs.YthgclfhfipfknaaGreat
