/- A transaction: whether it may be changed, asked by a Shrink that is refused; a page put into it. -/
/- A page put into a transaction. -/
import Derived.Test.YthgclfhfipfknaaGreatTK
import Derived.Maps.Views
namespace Go.Proofs.YthgclfhfipfknaaGreat
open Go.ChangeShapes Go.WideShapes Go.ChangeAt Go.RowKit Go.Maps
set_option linter.unusedVariables false

theorem shrink1_neg (w : World) (A B : Nat) (v : Option Addr) (hA : w.cell? ⟨A, 0, none⟩ = some (.int .i64 (-1))) : Calls Tryz.prog 241 #[.pointer (some ⟨A, 0, none⟩), .pointer (some ⟨B, 0, none⟩)] w fun e w' => e = .returned (.int .i64 2) ∧ Below w.heap.size w w' := by
  have HB := hide (below_drew w)
  go_enter Tryz.func241, Tryz.ntmps241
  go_upto_region 1 with fail
  go_region
  all_goals
    go_wp2
    go_ret
    exact ⟨rfl, HB.out⟩
/-- What a Shrink below 0 answers. -/
def shE (E : Int) : Int := if E = 0 then 2 else E
theorem do_shrink (w : World) (A B : Nat) (v : Option Addr) (E : Int) (h : ChK w v E) (hA : w.cell? ⟨A, 0, none⟩ = some (.int .i64 (-1))) :
    Calls Tryz.prog 56 #[.func (.func 57) #[.pointer v] #[], .func (.func 241) #[] #[.pointer (some ⟨A, 0, none⟩), .pointer (some ⟨B, 0, none⟩)]] w fun e w' => e = .returned (.int .i64 (shE E)) ∧ Below w.heap.size w w' := by
  by_cases he : E = 0
  · subst he
    have HG := hide (mayChange_e w v 0 h)
    have HM := hide (fun V (hb : Below w.heap.size w V) => shrink1_neg V A B v (cell_later hb hA))
    rw [show shE 0 = 2 from rfl]
    clear h hA
    go_enter Tryz.func56, Tryz.ntmps56
    go_wp2_with (first
      | (go_at_call 57; (with_reducible refine Calls.mono HG.out ?_); rintro e w4 ⟨rfl, hb⟩; have HB4 := hide hb; clear hb)
      | (go_at_call 241; (with_reducible refine Calls.mono (HM.out _ HB4.out) ?_); rintro e w5 ⟨rfl, hb⟩; have HB5 := hide (below_trans HB4.out hb); clear hb))
    go_ret
    exact ⟨rfl, HB5.out⟩
  · rw [show shE E = E from if_neg he]
    exact do_stopM w v E h he _
theorem shrink_neg (w : World) (v : Option Addr) (E : Int) (h : ChK w v E) : Calls Tryz.prog 180 #[.pointer v, .int .i64 (-1)] w fun e w' => e = .returned (.int .i64 (shE E)) ∧ Below w.heap.size w w' := by
  have hs1 : (w.alloc (.cells #[.pointer v] 24)).heap.size = w.heap.size + 1 := by simp
  have HB0 : Hid (Below w.heap.size w ((w.alloc (.cells #[.pointer v] 24)).alloc (.cells #[.int .i64 (-1)] 3))) := below_trans (below_alloc _ _) (below_alloc _ _)
  have cA : ((w.alloc (.cells #[.pointer v] 24)).alloc (.cells #[.int .i64 (-1)] 3)).cell? ⟨w.heap.size + 1, 0, none⟩ = some (.int .i64 (-1)) := by rw [← hs1]; exact (Blk.new _ #[.int .i64 (-1)] 3).cell 0
  have HD := hide (do_shrink _ (w.heap.size + 1) w.heap.size v E (h.later HB0.out) cA)
  clear h hs1 cA
  go_enter Tryz.func180, Tryz.ntmps180
  go_wp2_with (first
    | (go_at_call 56; (with_reducible refine Calls.mono HD.out ?_); rintro e w4 ⟨rfl, hb⟩; have HB4 := hide (below_trans HB0.out hb); clear hb))
  go_ret
  exact ⟨rfl, HB4.out⟩

/-- The pages behind a Put. -/
def upP (P : Nat → List UInt8) (k : Nat) (l : List UInt8) : Nat → List UInt8 := fun i => if i = k then l else P i
theorem upP_len {P : Nat → List UInt8} {k : Nat} {l : List UInt8} (h : ∀ i, (P i).length = 256) (hl : l.length = 256) : ∀ i, (upP P k l i).length = 256 := fun i => by
  unfold upP; split
  · exact hl
  · exact h i
theorem MpI.put {w w1 : World} {pm K n k : Nat} {P : Nat → List UInt8} {l : List UInt8} {D : DataW Value} (hm : ∃ es, D = .map es) (hp : ∀ i : Nat, 1 ≤ i → i ≤ n → Maps.has D (.int .i64 (i : Int)) = true ∧ D.atKey (.int .i64 (i : Int)) zP = .held (.agg (bc (P i))))
    (h1 : w1.ownsMap Tryz.prog 3 heldR pm (K + 1) (D.put (.int .i64 (k : Int)) (.held (.agg (bc l))))) (hk : k ≤ n + 1) : MpI w1 pm (K + 1) (max n k) (upP P k l) := by
  refine ⟨_, h1, ?_, fun i hi1 hi2 => ?_⟩
  · obtain ⟨es, rfl⟩ := hm; exact ⟨_, rfl⟩
  have hkl : WideAt.IsKeyLit (Lit.int .i64 (k : Int)) := trivial
  by_cases e : i = k
  · subst e
    exact ⟨has_put_same hm hkl _, by rw [atKey_put_same hm hkl]; simp [upP]⟩
  · have hne : (Lit.int .i64 (i : Int)) ≠ .int .i64 (k : Int) := by intro h; simp at h; omega
    obtain ⟨a, b⟩ := hp i hi1 (by omega)
    exact ⟨by rw [has_put_other hne]; exact a, by rw [atKey_put_other hne, b]; simp [upP, e]⟩
theorem PAt.rng {w : World} {g : Nat} {l : List UInt8} (h : PAt w g l) : w.rangeAt g 0 (bcl l) := by
  have := Blk.range h
  simpa [bc] using this
theorem grownBy_cell (w : World) (t o : Nat) (v : Value) : w.grownBy (w.setCell ⟨t, o, none⟩ v) (some t) := ⟨rfl, rfl, rfl, by simp [World.setCell], fun k hk hn => Below.heap_setCell _ _ _ _ (fun e => hn (by simpa using e))⟩
set_option maxRecDepth 20000 in
set_option maxHeartbeats 2000000 in
theorem set_e (w : World) (t pm n K : Nat) (P : Nat → List UInt8) (hmp : MpI w pm K n P) (hK : K ≤ 100000) (k : Nat) (hk : k ≤ n + 1) (hn : n ≤ 5000) (l : List UInt8) (hl : l.length = 256) {ty : TypeId} {cs : Array Value} (hb : Blk w t cs ty) (c3 : w.cell? ⟨t, 3, none⟩ = some (.int .i64 (n : Int))) (c4 : w.cell? ⟨t, 4, none⟩ = some (.map (some pm))) :
    Calls Tryz.prog 59 #[.pointer (some ⟨t, 3, none⟩), .int .i64 (k : Int), .agg (bc l)] w fun e w' => e = .returned (.tuple #[]) ∧ Blk w' t (cs.setIfInBounds 3 (.int .i64 ((max n k : Nat) : Int))) ty ∧ MpI w' pm (K + 1) (max n k) (upP P k l) ∧ Only [t, pm] w w' := by
  obtain ⟨M, hM⟩ : ∃ M, M = max n k := ⟨_, rfl⟩
  rw [← hM]
  have hB0 : Below w.heap.size w (w.alloc (.cells (bc l) 59)).drew := below_trans (below_alloc _ _) (below_drew _)
  obtain ⟨D, hD, hm, hp⟩ := hmp
  have hD0 := hD.kept (grown_of_below hB0) (by simp)
  obtain ⟨w1, hrun, hown, hg⟩ := hD0.update (int_keyed Tryz.underlying3) Tryz.underlying115 (by unfold maxLen; omega) (keyOf_int_mk Tryz.underlying3 (num_wf (n := k) (by omega))) (val := .agg (bc l)) (d := .held (.agg (bc l))) (ps := []) rfl
  have hne : t ≠ pm := by
    obtain ⟨es, cl, he, _⟩ := hD
    exact blk_map hb he
  have HM := hide (MpI.put (w := w) hm hp hown hk)
  rw [← hM] at HM
  have HMx := hide hM
  clear hM
  have hb1 : Blk w1 t cs ty := (hg.block t (Blk.later hb hB0).lt (by simpa using hne)).trans (Blk.later hb hB0)
  have HO1 : Hid (Only [t, pm] w w1) := (Only.of_below hB0).trans ((Only.of_grown hg).mono (by simp))
  have c31 : w1.cell? ⟨t, 3, none⟩ = some (.int .i64 (n : Int)) := by
    rw [hb1.cell, ← hb.cell]; exact c3
  have f31 := hb1.frozen 3
  have HB1 := hide hb1
  have HNe := hide hne
  have HC : Hid ((w.alloc (.cells (bc l) 59)).drew.cell? ⟨t, 4, none⟩ = some (.map (some pm)) ∧ (w.alloc (.cells (bc l) 59)).drew.rangeAt w.heap.size 0 (bcl l)) := ⟨cell_later hB0 c4, (show PAt (w.alloc (.cells (bc l) 59)).drew w.heap.size l from PAt.new w l).rng⟩
  have hpl : pm < w.heap.size := hD.lt
  have hpw : PAt w1 w.heap.size l := (hg.block w.heap.size (by show _ < (w.alloc (.cells (bc l) 59)).heap.size; simp) (by simp; omega)).trans (show PAt (w.alloc (.cells (bc l) 59)).drew w.heap.size l from PAt.new w l)
  have HC1 : Hid (w1.cell? ⟨t, 4, none⟩ = some (.map (some pm)) ∧ w1.rangeAt w.heap.size 0 (bcl l)) := ⟨by rw [hb1.cell, ← hb.cell]; exact c4, hpw.rng⟩
  have hsz : (Tryz.prog.info? 59).map (·.size) = some (bcl l).length := by rw [page_info]; simp [bcl, hl]
  clear hpl hpw
  clear hD hD0 hown hg hp hm hb1 hb c3 c4 hB0 hne
  have hu := page_arr
  have hrun2 : (Instr.mapUpdate 115 (.map (some pm)) (.int .i64 (k : Int)) (.agg (bcl l).toArray)).run Tryz.prog (w.alloc (.cells (bc l) 59)).drew = .ok () w1 := hrun
  clear hrun
  go_enter Tryz.func59, Tryz.ntmps59
  go_upto_region 1 with fail
  go_region_held3 (fun V => V.cell? ⟨t, 4, none⟩ = some (.map (some pm)) ∧ V.rangeAt w.heap.size 0 (bcl l)) (first | exact HC.out | exact HC1.out) (fail)
  all_goals
    clear hrun2
    go_wp2
    all_goals go_end0
    all_goals
      refine ⟨rfl, ?_, ?_, HO1.out.trans ((Only.setCell w1 ⟨t, 3, none⟩ _).mono (by simp))⟩
    · rename_i h
      rw [show M = k by have := HMx.out; omega]
      exact HB1.out.set 3 _
    · rename_i h
      exact HM.out.kept (row := some t) (grownBy_cell w1 t 3 _) (by have := HNe.out; simp; omega)
    · rename_i h
      rw [show M = n by have := HMx.out; omega]
      exact HB1.out.set 3 _
    · rename_i h
      exact HM.out.kept (row := some t) (grownBy_cell w1 t 3 _) (by have := HNe.out; simp; omega)
end Go.Proofs.YthgclfhfipfknaaGreat

namespace Go.Proofs.YthgclfhfipfknaaGreat
variable {sv : Value}
open Go.ChangeShapes Go.WideShapes Go.ChangeAt Go.RowKit Go.Maps
set_option linter.unusedVariables false

theorem DE.only {w w' : World} {d mb : Nat} {room : Int} {S : List Nat} (h : DE w d mb room) (ho : Only S w w') (h1 : d ∉ S) (h2 : mb ∉ S) : DE w' d mb room := ⟨h.blk.only ho h1, ho.blk h.mp h2⟩
theorem Gr.only {w w' : World} {j d mb l : Nat} {room : Int} {L : List Int} {S : List Nat} (h : Gr w j d mb l room L) (ho : Only S w w') (h1 : j ∉ S) (h2 : d ∉ S) (h3 : mb ∉ S) (h4 : l ∉ S) : Gr w' j d mb l room L := ⟨h.jr.only ho h1, h.de.only ho h2 h3, Blk.only h.lk ho h4, h.l8⟩
/-- What lies apart from a transaction's own two blocks. -/
theorem Tr.apart {w w' : World} {t pm n : Nat} {P : Nat → List UInt8} {K : Nat} {wr : Bool} (h : Tr sv w t pm n P K wr) (ho : Only [t, pm] w w') {b : Nat} {c : Array Value} {ty : TypeId} (hb : Blk w b c ty) (hty : ty ≠ 122) : Blk w' b c ty := by
  obtain ⟨⟨j, d, mb, l, room, L, cn, h1, h2, h3⟩, ⟨D, ⟨es, cl, he, _⟩, _⟩, h5, h6⟩ := h
  have n1 := blk_ne hb h2 hty
  have n2 := blk_map hb he
  exact hb.only ho (by simp; omega)
theorem Tr.putW {w w' : World} {t pm n : Nat} {P : Nat → List UInt8} {K : Nat} {wr : Bool} (h : Tr sv w t pm n P K wr) {M : Nat} {Q : Nat → List UInt8} {K2 : Nat} (ho : Only [t, pm] w w') (hb : ∀ cs, Blk w t cs 122 → Blk w' t (cs.setIfInBounds 3 (.int .i64 (M : Int))) 122) (hm : MpI w' pm K2 M Q) (hl : ∀ i, (Q i).length = 256) (hM : M ≤ 4096) : Tr sv w' t pm M Q K2 wr := by
  obtain ⟨⟨j, d, mb, l, room, L, cn, h1, h2, h3⟩, ⟨D, ⟨es, cl, he, _⟩, _⟩, h5, h6⟩ := h
  refine ⟨⟨j, d, mb, l, room, L, cn, h1.only ho ?_ ?_ ?_ ?_, hb _ h2, h3⟩, hm, hl, hM⟩
  · have a := blk_ne h1.jr h2 (by decide); have b := blk_map h1.jr he; simp; omega
  · have a := blk_ne h1.de.blk h2 (by decide); have b := blk_map h1.de.blk he; simp; omega
  · have a := blk_map h2 h1.de.mp; simp; omega
  · have a := blk_ne h1.lk h2 (by decide); have b := blk_map h1.lk he; simp; omega
/-- What Put answers, and what there is then. -/
inductive PtK (w : World) : Option Addr → Int → List UInt8 → Int → (World → Prop) → Prop where
  | stop {v : Option Addr} {k e : Int} {l : List UInt8} (h : ChK w v e) (he : e ≠ 0) : PtK w v k l e (fun w' => Below w.heap.size w w')
  | out {sv : Value} {t pm n : Nat} {P : Nat → List UInt8} {K : Nat} {k : Int} {l : List UInt8} (h : Tr sv w t pm n P K true) (hk : k < 1 ∨ (n : Int) + 1 < k) : PtK w (some ⟨t, 0, none⟩) k l 4 (fun w' => Below w.heap.size w w')
  | full {sv : Value} {t pm n : Nat} {P : Nat → List UInt8} {K : Nat} {l : List UInt8} (h : Tr sv w t pm n P K true) (hn : n = 4096) : PtK w (some ⟨t, 0, none⟩) 4097 l 5 (fun w' => Below w.heap.size w w')
  | inn {sv : Value} {t pm n : Nat} {P : Nat → List UInt8} {K : Nat} {k : Nat} {l : List UInt8} (h : Tr sv w t pm n P K true) (h1 : 1 ≤ k) (h2 : k ≤ n + 1) (h3 : k ≤ 4096) (hK : K ≤ 100000) : PtK w (some ⟨t, 0, none⟩) (k : Int) l 0 (fun w' => Tr sv w' t pm (max n k) (upP P k l) (K + 1) true ∧ Only [t, pm] w w')
/-- The closure, of a transaction that may be changed. -/
theorem put1_out (w : World) (A B C t pm n : Nat) {P : Nat → List UInt8} {K : Nat} {wr : Bool} (h : Tr sv w t pm n P K wr) (k : Int) (h1 : k < 1 ∨ (n : Int) + 1 < k) (hA : w.cell? ⟨A, 0, none⟩ = some (.int .i64 k)) (hB : w.cell? ⟨B, 0, none⟩ = some (.pointer (some ⟨t, 0, none⟩))) :
    Calls Tryz.prog 58 #[.pointer (some ⟨A, 0, none⟩), .pointer (some ⟨B, 0, none⟩), .pointer (some ⟨C, 0, none⟩)] w fun e w' => e = .returned (.int .i64 4) ∧ Below w.heap.size w w' := by
  have HB0 := hide (below_drew w)
  have c3 := h.c3
  have few := h.few
  have hw : IntKind.i64.wrap ((n : Int) + 1) = (n : Int) + 1 := by rw [IntKind.wrap_i64]; omega
  clear h few
  by_cases l1 : k < 1
  · clear h1
    go_enter Tryz.func58, Tryz.ntmps58
    go_upto_region 1 with fail
    go_region
    all_goals
      go_wp2
      go_ret
      exact ⟨rfl, HB0.out⟩
  · have l2 : (n : Int) + 1 < k := by omega
    clear h1
    have HC : Hid (w.drew.cell? ⟨A, 0, none⟩ = some (.int .i64 k) ∧ w.drew.cell? ⟨B, 0, none⟩ = some (.pointer (some ⟨t, 0, none⟩)) ∧ w.drew.cell? ⟨t, 3, none⟩ = some (.int .i64 (n : Int))) := ⟨hA, hB, c3⟩
    clear hA hB c3
    go_enter Tryz.func58, Tryz.ntmps58
    go_upto_region 1 with fail
    go_region_held3 (fun V => V.cell? ⟨A, 0, none⟩ = some (.int .i64 k) ∧ V.cell? ⟨B, 0, none⟩ = some (.pointer (some ⟨t, 0, none⟩)) ∧ V.cell? ⟨t, 3, none⟩ = some (.int .i64 (n : Int))) (exact HC.out) (fail)
    all_goals
      go_wp2
      go_ret
      exact ⟨rfl, HB0.out⟩
theorem put1_full (w : World) (A B C t pm n : Nat) {P : Nat → List UInt8} {K : Nat} {wr : Bool} (h : Tr sv w t pm n P K wr) (hn : n = 4096) (hA : w.cell? ⟨A, 0, none⟩ = some (.int .i64 4097)) (hB : w.cell? ⟨B, 0, none⟩ = some (.pointer (some ⟨t, 0, none⟩))) :
    Calls Tryz.prog 58 #[.pointer (some ⟨A, 0, none⟩), .pointer (some ⟨B, 0, none⟩), .pointer (some ⟨C, 0, none⟩)] w fun e w' => e = .returned (.int .i64 5) ∧ Below w.heap.size w w' := by
  subst hn
  have HB0 := hide (below_drew w)
  have c3 : w.cell? ⟨t, 3, none⟩ = some (.int .i64 4096) := h.c3
  clear h
  have HC : Hid (w.drew.cell? ⟨A, 0, none⟩ = some (.int .i64 4097) ∧ w.drew.cell? ⟨B, 0, none⟩ = some (.pointer (some ⟨t, 0, none⟩)) ∧ w.drew.cell? ⟨t, 3, none⟩ = some (.int .i64 4096)) := ⟨hA, hB, c3⟩
  clear hA hB c3
  go_enter Tryz.func58, Tryz.ntmps58
  go_upto_region 1 with fail
  go_region_held3 (fun V => V.cell? ⟨A, 0, none⟩ = some (.int .i64 4097) ∧ V.cell? ⟨B, 0, none⟩ = some (.pointer (some ⟨t, 0, none⟩)) ∧ V.cell? ⟨t, 3, none⟩ = some (.int .i64 4096)) (exact HC.out) (fail)
  all_goals
    have cA := HC.out.1
    go_wp2
    go_ret
    exact ⟨rfl, HB0.out⟩
set_option maxRecDepth 20000 in
set_option maxHeartbeats 2000000 in
theorem put1_in (w : World) (A B C t pm n : Nat) {P : Nat → List UInt8} {K : Nat} {wr : Bool} (h : Tr sv w t pm n P K wr) (k : Nat) (h1 : 1 ≤ k) (h2 : k ≤ n + 1) (h3 : k ≤ 4096) (hK : K ≤ 100000) (l : List UInt8) (hl : l.length = 256) (hA : Blk w A #[.int .i64 (k : Int)] 3) (hB : Blk w B #[.pointer (some ⟨t, 0, none⟩)] 24) (hC : PAt w C l) :
    Calls Tryz.prog 58 #[.pointer (some ⟨A, 0, none⟩), .pointer (some ⟨B, 0, none⟩), .pointer (some ⟨C, 0, none⟩)] w fun e w' => e = .returned (.int .i64 0) ∧ Tr sv w' t pm (max n k) (upP P k l) (K + 1) wr ∧ Only [t, pm] w w' := by
  have few := h.few
  have l1 : ¬ (k : Int) < 1 := by omega
  have l2 : ¬ (n : Int) + 1 < (k : Int) := by omega
  have l3 : ¬ (4096 : Int) < (k : Int) := by omega
  have hw : IntKind.i64.wrap ((n : Int) + 1) = (n : Int) + 1 := by rw [IntKind.wrap_i64]; omega
  have HC : Hid (∀ V, Below w.heap.size w V → V.cell? ⟨A, 0, none⟩ = some (.int .i64 (k : Int)) ∧ V.cell? ⟨B, 0, none⟩ = some (.pointer (some ⟨t, 0, none⟩)) ∧ V.cell? ⟨t, 3, none⟩ = some (.int .i64 (n : Int)) ∧ V.rangeAt C 0 (bcl l)) := fun V hb => ⟨(hA.later hb).cell 0, (hB.later hb).cell 0, (h.later hb).c3, (hC.later hb).rng⟩
  have HC5 : Hid (∀ V, Only [t, pm] w V → V.cell? ⟨A, 0, none⟩ = some (.int .i64 (k : Int)) ∧ V.cell? ⟨B, 0, none⟩ = some (.pointer (some ⟨t, 0, none⟩)) ∧ V.rangeAt C 0 (bcl l)) := fun V ho => ⟨(h.apart ho hA (by decide)).cell 0, (h.apart ho hB (by decide)).cell 0, (show PAt V C l from h.apart ho hC (by decide)).rng⟩
  have hbd : Below w.heap.size w w.drew.drew := below_trans (below_drew _) (below_drew _)
  have HS : Hid (Calls Tryz.prog 59 #[.pointer (some ⟨t, 3, none⟩), .int .i64 (k : Int), .agg (bcl l).toArray] w.drew.drew fun e w' => e = .returned (.tuple #[]) ∧ Tr sv w' t pm (max n k) (upP P k l) (K + 1) wr ∧ Only [t, pm] w w') := by
    have h' := h.later hbd
    obtain ⟨cs, hcs⟩ : ∃ cs, Blk w.drew.drew t cs 122 := by
      obtain ⟨⟨j, d, mb, l, room, L, cn, q1, q2, q3⟩, _⟩ := h'
      exact ⟨_, q2⟩
    refine (set_e w.drew.drew t pm n K P h'.mp hK k h2 (by omega) l hl hcs h'.c3 h'.c4).mono ?_
    rintro e w' ⟨rfl, q1, q2, q3⟩
    refine ⟨rfl, h'.putW q3 (fun cs' hc' => ?_) q2 (upP_len h.len hl) (by omega), (Only.of_below hbd).trans q3⟩
    have := hcs.symm.trans hc'
    injection this with this
    injection this with this
    subst this
    exact q1
  have HB0d : Hid (Below w.heap.size w w.drew) := below_drew _
  have HB0e : Hid (Below w.heap.size w w.drew.drew) := hbd
  clear h hA hB hC hbd few
  have hu := page_arr
  have hsz : (Tryz.prog.info? 59).map (·.size) = some (bcl l).length := by rw [page_info]; simp [bcl, hl]
  go_enter Tryz.func58, Tryz.ntmps58
  go_upto_region 1 with fail
  go_region_held3 (fun V => V.cell? ⟨A, 0, none⟩ = some (.int .i64 (k : Int)) ∧ V.cell? ⟨B, 0, none⟩ = some (.pointer (some ⟨t, 0, none⟩)) ∧ V.cell? ⟨t, 3, none⟩ = some (.int .i64 (n : Int)) ∧ V.rangeAt C 0 (bcl l)) (exact HC.out _ HB0d.out) (fail)
  all_goals
    have cA := (HC.out _ HB0d.out).1
    go_upto_region 5 with fail
    clear cA
    go_region_held3 (fun V => V.cell? ⟨A, 0, none⟩ = some (.int .i64 (k : Int)) ∧ V.cell? ⟨B, 0, none⟩ = some (.pointer (some ⟨t, 0, none⟩)) ∧ V.rangeAt C 0 (bcl l)) (first | exact ⟨(HC.out _ HB0e.out).1, (HC.out _ HB0e.out).2.1, (HC.out _ HB0e.out).2.2.2⟩ | exact HC5.out _ HB5.out.2) (first | (go_at_call 59; (with_reducible refine Calls.mono HS.out ?_); rintro e w5 ⟨rfl, hb⟩; have HB5 := hide hb; clear hb))
  all_goals
    go_wp2
    go_ret
    exact ⟨rfl, HB5.out⟩
/-- 'do' with Put's closure. -/
theorem do_put (w : World) (A B C : Nat) (v : Option Addr) (k : Int) (l : List UInt8) (hl : l.length = 256) (E : Int) (R : World → Prop) (h : PtK w v k l E R) (hA : Blk w A #[.int .i64 k] 3) (hB : Blk w B #[.pointer v] 24) (hC : PAt w C l) :
    Calls Tryz.prog 56 #[.func (.func 57) #[.pointer v] #[], .func (.func 58) #[] #[.pointer (some ⟨A, 0, none⟩), .pointer (some ⟨B, 0, none⟩), .pointer (some ⟨C, 0, none⟩)]] w fun e w' => e = .returned (.int .i64 E) ∧ R w' := by
  cases h with
  | stop h he => exact do_stopM w v E h he _
  | @out _ t pm n P K k l h hk =>
    have HG := hide (mayChange_e w _ 0 h.chK)
    have HM := hide (fun V (hb : Below w.heap.size w V) => put1_out V A B C _ _ _ (h.later hb) _ hk ((hA.later hb).cell 0) ((hB.later hb).cell 0))
    clear h hA hB hC
    go_enter Tryz.func56, Tryz.ntmps56
    go_wp2_with (first
      | (go_at_call 57; (with_reducible refine Calls.mono HG.out ?_); rintro e w4 ⟨rfl, hb⟩; have HB4 := hide hb; clear hb)
      | (go_at_call 58; (with_reducible refine Calls.mono (HM.out _ HB4.out) ?_); rintro e w5 ⟨rfl, hb⟩; have HB5 := hide (below_trans HB4.out hb); clear hb))
    go_ret
    exact ⟨rfl, HB5.out⟩
  | @full _ t pm n P K l h hn =>
    have HG := hide (mayChange_e w _ 0 h.chK)
    have HM := hide (fun V (hb : Below w.heap.size w V) => put1_full V A B C _ _ _ (h.later hb) hn ((hA.later hb).cell 0) ((hB.later hb).cell 0))
    clear h hA hB hC
    go_enter Tryz.func56, Tryz.ntmps56
    go_wp2_with (first
      | (go_at_call 57; (with_reducible refine Calls.mono HG.out ?_); rintro e w4 ⟨rfl, hb⟩; have HB4 := hide hb; clear hb)
      | (go_at_call 58; (with_reducible refine Calls.mono (HM.out _ HB4.out) ?_); rintro e w5 ⟨rfl, hb⟩; have HB5 := hide (below_trans HB4.out hb); clear hb))
    go_ret
    exact ⟨rfl, HB5.out⟩
  | @inn _ t pm n P K k l h h1 h2 h3 hK =>
    have HG := hide (mayChange_e w _ 0 h.chK)
    have HM := hide (fun V (hb : Below w.heap.size w V) => put1_in V A B C _ _ _ (h.later hb) _ h1 h2 h3 hK l hl (hA.later hb) (hB.later hb) (hC.later hb))
    clear h hA hB hC
    go_enter Tryz.func56, Tryz.ntmps56
    go_wp2_with (first
      | (go_at_call 57; (with_reducible refine Calls.mono HG.out ?_); rintro e w4 ⟨rfl, hb⟩; have HB4 := hide hb; clear hb)
      | (go_at_call 58; (with_reducible refine Calls.mono (HM.out _ HB4.out) ?_); rintro e w5 ⟨rfl, hb⟩; have HB5 := hide (And.intro hb.1 (Only.after_below HB4.out hb.2)); clear hb))
    go_ret
    exact ⟨rfl, HB5.out⟩
theorem PtK.later {w V : World} {v : Option Addr} {k : Int} {l : List UInt8} {E : Int} {R : World → Prop} (h : PtK w v k l E R) (hb : Below w.heap.size w V) : ∃ R', PtK V v k l E R' ∧ ∀ w', R' w' → R w' := by
  cases h with
  | stop h he => exact ⟨_, .stop (h.later hb) he, fun w' hw => below_trans hb hw⟩
  | out h hk => exact ⟨_, .out (h.later hb) hk, fun w' hw => below_trans hb hw⟩
  | full h hn => exact ⟨_, .full (h.later hb) hn, fun w' hw => below_trans hb hw⟩
  | inn h h1 h2 h3 hK => exact ⟨_, .inn (h.later hb) h1 h2 h3 hK, fun w' hw => ⟨hw.1, Only.after_below hb hw.2⟩⟩
set_option maxRecDepth 20000 in
set_option maxHeartbeats 2000000 in
theorem put_e (w : World) (v : Option Addr) (k : Int) (l : List UInt8) (hl : l.length = 256) (E : Int) (R : World → Prop) (h : PtK w v k l E R) :
    Calls Tryz.prog 20 #[.pointer v, .int .i64 k, .agg (bc l)] w fun e w' => e = .returned (.int .i64 E) ∧ R w' := by
  have hs1 : (w.alloc (.cells #[.pointer v] 24)).heap.size = w.heap.size + 1 := by simp
  have hs2 : ((w.alloc (.cells #[.pointer v] 24)).alloc (.cells #[.int .i64 k] 3)).heap.size = w.heap.size + 1 + 1 := by simp
  obtain ⟨W0, hW0⟩ : ∃ W0, W0 = ((w.alloc (.cells #[.pointer v] 24)).alloc (.cells #[.int .i64 k] 3)).alloc (.cells (bc l) 59) := ⟨_, rfl⟩
  have HB0 : Hid (Below w.heap.size w W0) := by rw [hW0]; exact below_trans (below_trans (below_alloc _ _) (below_alloc _ _)) (below_alloc _ _)
  have hC : PAt W0 (w.heap.size + 1 + 1) l := by rw [hW0, ← hs2]; exact PAt.new _ _
  have hB : Blk W0 w.heap.size #[.pointer v] 24 := by rw [hW0]; exact (((Blk.new w #[.pointer v] 24).later (below_alloc _ _)).later (below_alloc _ _))
  have hA : Blk W0 (w.heap.size + 1) #[.int .i64 k] 3 := by rw [hW0, ← hs1]; exact ((Blk.new _ #[.int .i64 k] 3).later (below_alloc _ _))
  obtain ⟨R', hR', hR⟩ := h.later HB0.out
  have HR := hide hR
  have cB : W0.cell? ⟨w.heap.size, 0, none⟩ = some (.pointer v) := hB.cell 0
  have HD := hide (do_put W0 (w.heap.size + 1) w.heap.size (w.heap.size + 1 + 1) v k l hl E R' hR' hA hB hC)
  clear h hs1 hs2 hA hB hC hR' hR
  subst hW0
  go_enter Tryz.func20, Tryz.ntmps20
  go_wp2_with (first
    | (go_at_call 56; (with_reducible refine Calls.mono HD.out ?_); rintro e w4 ⟨rfl, hb⟩; have HB4 := hide (HR.out _ hb); clear hb))
  go_ret
  exact ⟨rfl, HB4.out⟩
end Go.Proofs.YthgclfhfipfknaaGreat
