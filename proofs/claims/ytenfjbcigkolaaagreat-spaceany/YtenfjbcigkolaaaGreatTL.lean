/- A transaction: whether it may be changed, asked by a Shrink that is refused; a page put into it. -/
import Derived.Test.YtenfjbcigkolaaaGreatTK
import Derived.Maps.Views
namespace Go.Proofs.YtenfjbcigkolaaaGreat
open Go.ChangeShapes Go.WideShapes Go.ChangeAt Go.RowKit Go.Maps
set_option linter.unusedVariables false

theorem shrink1_neg (w : World) (A B : Nat) (v : Option Addr) (hA : w.cell? ⟨A, 0, none⟩ = some (.int .i64 (-1))) : Calls Tryz.prog 75 #[.pointer (some ⟨A, 0, none⟩), .pointer (some ⟨B, 0, none⟩)] w fun e w' => e = .returned (.int .i64 2) ∧ Below w.heap.size w w' := by
  have HB := hide (below_drew w)
  go_enter Tryz.func75, Tryz.ntmps75
  go_upto_region 1 with fail
  go_region
  all_goals
    go_wp2
    go_ret
    exact ⟨rfl, HB.out⟩
/-- What a Shrink below 0 answers. -/
def shE (E : Int) : Int := if E = 0 then 2 else E
theorem do_shrink (w : World) (A B : Nat) (v : Option Addr) (E : Int) (h : ChK w v E) (hA : w.cell? ⟨A, 0, none⟩ = some (.int .i64 (-1))) :
    Calls Tryz.prog 70 #[.func (.func 72) #[.pointer v] #[], .func (.func 75) #[] #[.pointer (some ⟨A, 0, none⟩), .pointer (some ⟨B, 0, none⟩)]] w fun e w' => e = .returned (.int .i64 (shE E)) ∧ Below w.heap.size w w' := by
  by_cases he : E = 0
  · subst he
    have HG := hide (mayChange_e w v 0 h)
    have HM := hide (fun V (hb : Below w.heap.size w V) => shrink1_neg V A B v (cell_later hb hA))
    rw [show shE 0 = 2 from rfl]
    clear h hA
    go_enter Tryz.func70, Tryz.ntmps70
    go_wp2_with (first
      | (go_at_call 72; (with_reducible refine Calls.mono HG.out ?_); rintro e w4 ⟨rfl, hb⟩; have HB4 := hide hb; clear hb)
      | (go_at_call 75; (with_reducible refine Calls.mono (HM.out _ HB4.out) ?_); rintro e w5 ⟨rfl, hb⟩; have HB5 := hide (below_trans HB4.out hb); clear hb))
    go_ret
    exact ⟨rfl, HB5.out⟩
  · rw [show shE E = E from if_neg he]
    exact do_stopM w v E h he _
theorem shrink_neg (w : World) (v : Option Addr) (E : Int) (h : ChK w v E) : Calls Tryz.prog 16 #[.pointer v, .int .i64 (-1)] w fun e w' => e = .returned (.int .i64 (shE E)) ∧ Below w.heap.size w w' := by
  have hs1 : (w.alloc (.cells #[.pointer v] 26)).heap.size = w.heap.size + 1 := by simp
  have HB0 : Hid (Below w.heap.size w ((w.alloc (.cells #[.pointer v] 26)).alloc (.cells #[.int .i64 (-1)] 3))) := below_trans (below_alloc _ _) (below_alloc _ _)
  have cA : ((w.alloc (.cells #[.pointer v] 26)).alloc (.cells #[.int .i64 (-1)] 3)).cell? ⟨w.heap.size + 1, 0, none⟩ = some (.int .i64 (-1)) := by rw [← hs1]; exact (Blk.new _ #[.int .i64 (-1)] 3).cell 0
  have HD := hide (do_shrink _ (w.heap.size + 1) w.heap.size v E (h.later HB0.out) cA)
  clear h hs1 cA
  go_enter Tryz.func16, Tryz.ntmps16
  go_wp2_with (first
    | (go_at_call 70; (with_reducible refine Calls.mono HD.out ?_); rintro e w4 ⟨rfl, hb⟩; have HB4 := hide (below_trans HB0.out hb); clear hb))
  go_ret
  exact ⟨rfl, HB4.out⟩

/-- The pages behind a Put. -/
def upP (P : Nat → List UInt8) (k : Nat) (l : List UInt8) : Nat → List UInt8 := fun i => if i = k then l else P i
theorem upP_len {P : Nat → List UInt8} {k : Nat} {l : List UInt8} (h : ∀ i, (P i).length = 256) (hl : l.length = 256) : ∀ i, (upP P k l i).length = 256 := fun i => by
  unfold upP; split
  · exact hl
  · exact h i
theorem MpI.put {w w1 : World} {pm K n k : Nat} {P : Nat → List UInt8} {l : List UInt8} {D : DataW Value} (hm : ∃ es, D = .map es) (hp : ∀ i : Nat, 1 ≤ i → i ≤ n → Maps.has D (.int .i64 (i : Int)) = true ∧ D.atKey (.int .i64 (i : Int)) zP = .held (.agg (bc (P i))))
    (h1 : w1.ownsMap Tryz.prog 3 heldR pm (K + 1) (D.put (.int .i64 (k : Int)) (.held (.agg (bc l))))) (hk : k ≤ n + 1) : MpI w1 pm (K + 1) (max n k) (upP P k l) := by
  refine ⟨_, h1, ?_, fun i hi1 hi2 => ?_⟩
  · obtain ⟨es, rfl⟩ := hm; exact ⟨_, rfl⟩
  have hkl : WideAt.IsKeyLit (Lit.int .i64 (k : Int)) := trivial
  by_cases e : i = k
  · subst e
    exact ⟨has_put_same hm hkl _, by rw [atKey_put_same hm hkl]; simp [upP]⟩
  · have hne : (Lit.int .i64 (i : Int)) ≠ .int .i64 (k : Int) := by intro h; simp at h; omega
    obtain ⟨a, b⟩ := hp i hi1 (by omega)
    exact ⟨by rw [has_put_other hne]; exact a, by rw [atKey_put_other hne, b]; simp [upP, e]⟩
theorem PAt.rng {w : World} {g : Nat} {l : List UInt8} (h : PAt w g l) : w.rangeAt g 0 (bcl l) := by
  have := Blk.range h
  simpa [bc] using this
theorem grownBy_cell (w : World) (t o : Nat) (v : Value) : w.grownBy (w.setCell ⟨t, o, none⟩ v) (some t) := ⟨rfl, rfl, rfl, by simp [World.setCell], fun k hk hn => Below.heap_setCell _ _ _ _ (fun e => hn (by simpa using e))⟩
set_option maxRecDepth 20000 in
set_option maxHeartbeats 2000000 in
theorem set_e (w : World) (t pm n K : Nat) (P : Nat → List UInt8) (hmp : MpI w pm K n P) (hK : K ≤ 100000) (k : Nat) (hk : k ≤ n + 1) (hn : n ≤ 5000) (l : List UInt8) (hl : l.length = 256) {ty : TypeId} {cs : Array Value} (hb : Blk w t cs ty) (c3 : w.cell? ⟨t, 3, none⟩ = some (.int .i64 (n : Int))) (c4 : w.cell? ⟨t, 4, none⟩ = some (.map (some pm))) :
    Calls Tryz.prog 74 #[.pointer (some ⟨t, 3, none⟩), .int .i64 (k : Int), .agg (bc l)] w fun e w' => e = .returned (.tuple #[]) ∧ Blk w' t (cs.setIfInBounds 3 (.int .i64 ((max n k : Nat) : Int))) ty ∧ MpI w' pm (K + 1) (max n k) (upP P k l) ∧ Only [t, pm] w w' := by
  obtain ⟨M, hM⟩ : ∃ M, M = max n k := ⟨_, rfl⟩
  rw [← hM]
  have hB0 : Below w.heap.size w (w.alloc (.cells (bc l) 32)).drew := below_trans (below_alloc _ _) (below_drew _)
  obtain ⟨D, hD, hm, hp⟩ := hmp
  have hD0 := hD.kept (grown_of_below hB0) (by simp)
  obtain ⟨w1, hrun, hown, hg⟩ := hD0.update (int_keyed Tryz.underlying3) Tryz.underlying122 (by unfold maxLen; omega) (keyOf_int_mk Tryz.underlying3 (num_wf (n := k) (by omega))) (val := .agg (bc l)) (d := .held (.agg (bc l))) (ps := []) rfl
  have hne : t ≠ pm := by
    obtain ⟨es, cl, he, _⟩ := hD
    exact blk_map hb he
  have HM := hide (MpI.put (w := w) hm hp hown hk)
  rw [← hM] at HM
  have HMx := hide hM
  clear hM
  have hb1 : Blk w1 t cs ty := (hg.block t (Blk.later hb hB0).lt (by simpa using hne)).trans (Blk.later hb hB0)
  have HO1 : Hid (Only [t, pm] w w1) := (Only.of_below hB0).trans ((Only.of_grown hg).mono (by simp))
  have c31 : w1.cell? ⟨t, 3, none⟩ = some (.int .i64 (n : Int)) := by
    rw [hb1.cell, ← hb.cell]; exact c3
  have f31 := hb1.frozen 3
  have HB1 := hide hb1
  have HNe := hide hne
  have HC : Hid ((w.alloc (.cells (bc l) 32)).drew.cell? ⟨t, 4, none⟩ = some (.map (some pm)) ∧ (w.alloc (.cells (bc l) 32)).drew.rangeAt w.heap.size 0 (bcl l)) := ⟨cell_later hB0 c4, (show PAt (w.alloc (.cells (bc l) 32)).drew w.heap.size l from PAt.new w l).rng⟩
  have hpl : pm < w.heap.size := hD.lt
  have hpw : PAt w1 w.heap.size l := (hg.block w.heap.size (by show _ < (w.alloc (.cells (bc l) 32)).heap.size; simp) (by simp; omega)).trans (show PAt (w.alloc (.cells (bc l) 32)).drew w.heap.size l from PAt.new w l)
  have HC1 : Hid (w1.cell? ⟨t, 4, none⟩ = some (.map (some pm)) ∧ w1.rangeAt w.heap.size 0 (bcl l)) := ⟨by rw [hb1.cell, ← hb.cell]; exact c4, hpw.rng⟩
  have hsz : (Tryz.prog.info? 32).map (·.size) = some (bcl l).length := by rw [page_info]; simp [bcl, hl]
  clear hpl hpw
  clear hD hD0 hown hg hp hm hb1 hb c3 c4 hB0 hne
  have hu := page_arr
  have hrun2 : (Instr.mapUpdate 122 (.map (some pm)) (.int .i64 (k : Int)) (.agg (bcl l).toArray)).run Tryz.prog (w.alloc (.cells (bc l) 32)).drew = .ok () w1 := hrun
  clear hrun
  go_enter Tryz.func74, Tryz.ntmps74
  go_upto_region 1 with fail
  go_region_held3 (fun V => V.cell? ⟨t, 4, none⟩ = some (.map (some pm)) ∧ V.rangeAt w.heap.size 0 (bcl l)) (first | exact HC.out | exact HC1.out) (fail)
  all_goals
    clear hrun2
    go_wp2
    all_goals go_end0
    all_goals
      refine ⟨rfl, ?_, ?_, HO1.out.trans ((Only.setCell w1 ⟨t, 3, none⟩ _).mono (by simp))⟩
    · rename_i h
      rw [show M = k by have := HMx.out; omega]
      exact HB1.out.set 3 _
    · rename_i h
      exact HM.out.kept (row := some t) (grownBy_cell w1 t 3 _) (by have := HNe.out; simp; omega)
    · rename_i h
      rw [show M = n by have := HMx.out; omega]
      exact HB1.out.set 3 _
    · rename_i h
      exact HM.out.kept (row := some t) (grownBy_cell w1 t 3 _) (by have := HNe.out; simp; omega)
end Go.Proofs.YtenfjbcigkolaaaGreat
