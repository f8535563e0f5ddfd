/- A transaction is begun. -/
import Derived.Test.YtenfjbcigkolaaaGreatTN
namespace Go.Proofs.YtenfjbcigkolaaaGreat
open Go.ChangeShapes Go.WideShapes Go.ChangeAt Go.RowKit Go.Maps
set_option linter.unusedVariables false

/-- What Begin leaves. -/
def BgW (w w' : World) (j d mb l : Nat) (room : Int) (L : List Int) (c t : Nat) : Prop := ∃ pm, Gr w' j d mb l room (tkH L (c : Int) 1) ∧ TxB w' t j (c : Int) 0 (some pm) (.slice none 0 0) false false ∧ (∀ P, MpI w' pm 0 0 P) ∧ mb ≠ pm ∧ Only [l] w w' ∧ w.heap.size ≤ t ∧ w.heap.size ≤ pm
theorem bgw_mk {w w6 : World} {j d mb l : Nat} {room : Int} {L : List Int} {c : Nat} (hg : Gr w6 j d mb l room (tkH L (c : Int) 1)) (ho : Only [l] w w6) :
    BgW w ((w6.alloc (.map #[] 0)).alloc (.cells (txc j (c : Int) 0 (some w6.heap.size) (.slice none 0 0) false false) 127)).drew j d mb l room L c (w6.heap.size + 1) := by
  have hs1 : (w6.alloc (.map #[] 0)).heap.size = w6.heap.size + 1 := by simp
  have hB : Below w6.heap.size w6 ((w6.alloc (.map #[] 0)).alloc (.cells (txc j (c : Int) 0 (some w6.heap.size) (.slice none 0 0) false false) 127)).drew := below_trans (below_trans (below_alloc _ _) (below_alloc _ _)) (below_drew _)
  refine ⟨w6.heap.size, hg.later hB, ?_, fun P => ⟨.map [], ?_, ⟨[], rfl⟩, fun k h1 h2 => by omega⟩, ?_, ho.then_below hB, by have := ho.size; omega, ho.size⟩
  · show Blk ((w6.alloc (.map #[] 0)).alloc _) _ _ _
    rw [← hs1]; exact Blk.new _ _ _
  · exact ((World.ownsMap_made w6 Tryz.prog 3 heldR).kept (grown_of_below (below_trans (below_alloc _ _) (below_drew _))) (by simp))
  · have := (Array.getElem?_eq_some_iff.1 hg.de.mp).1; omega
set_option maxRecDepth 20000 in
set_option maxHeartbeats 2000000 in
theorem begin1_e (w : World) (A B s j d mb l : Nat) (room : Int) (L : List Int) (h : Gr w j d mb l room L) (c : Nat) (hc : MayB L c) (hA : Blk w A #[.int .i64 (c : Int)] 3) (hB : Blk w B #[.pointer (some ⟨s, 0, none⟩)] 22) (hS : Blk w s #[.iface 117 (.pointer (some ⟨j, 0, none⟩))] 115) :
    Calls Tryz.prog 61 #[.pointer (some ⟨A, 0, none⟩), .pointer (some ⟨B, 0, none⟩)] w fun e w' => ∃ t, e = .returned (.tuple #[.pointer (some ⟨t, 0, none⟩), .int .i64 0]) ∧ BgW w w' j d mb l room L c t := by
  have hlt := hc.lt
  have l0 : ¬ (c : Int) < 0 := by omega
  have l1 : ¬ (8 : Int) ≤ (c : Int) := by omega
  have hmk : ∀ V : World, (Instr.makeMap 122 none).run Tryz.prog V = .ok (.map (some V.heap.size)) (V.alloc (.map #[] 0)) := fun V => rfl
  have HC : Hid (∀ V, Only [l] w V → V.cell? ⟨A, 0, none⟩ = some (.int .i64 (c : Int)) ∧ V.cell? ⟨B, 0, none⟩ = some (.pointer (some ⟨s, 0, none⟩)) ∧ V.cell? ⟨s, 0, none⟩ = some (.iface 117 (.pointer (some ⟨j, 0, none⟩)))) := fun V ho =>
    ⟨(hA.only ho (by have := blk_ne hA h.lk (by decide); simpa using this)).cell 0, (hB.only ho (by have := blk_ne hB h.lk (by decide); simpa using this)).cell 0, (hS.only ho (by have := blk_ne hS h.lk (by decide); simpa using this)).cell 0⟩
  have HJ := hide (jbegin_e w.drew j d mb l room L h.drew c hc)
  have HO0 : Hid (Only [l] w w.drew) := Only.drew _ _
  have cA := hA.cell 0
  have HBg := hide (fun (w6 : World) (hg : Gr w6 j d mb l room (tkH L (c : Int) 1)) (ho : Only [l] w w6) => bgw_mk hg ho)
  clear h hA hB hS hlt hc
  replace cA : w.cell? ⟨A, 0, none⟩ = some (.int .i64 (c : Int)) := cA
  go_enter Tryz.func61, Tryz.ntmps61
  go_upto_region 3 with fail
  clear cA
  go_region_held3 (fun V => V.cell? ⟨A, 0, none⟩ = some (.int .i64 (c : Int)) ∧ V.cell? ⟨B, 0, none⟩ = some (.pointer (some ⟨s, 0, none⟩)) ∧ V.cell? ⟨s, 0, none⟩ = some (.iface 117 (.pointer (some ⟨j, 0, none⟩)))) (first | exact HC.out _ HO0.out | exact HC.out _ HO4.out) (first
    | (go_at_call 315; (with_reducible refine Calls.mono HJ.out ?_); rintro e w4 ⟨rfl, hg, ho⟩; have HG4 := hide hg; have HO4 := hide (HO0.out.trans ho); clear hg ho))
  all_goals
    go_upto_region 6 with fail
    have HO5 : Hid (Only [l] w w4.drew) := HO4.out.trans (Only.drew _ _)
    have HO6 : Hid (Only [l] w (w4.alloc (.map #[] 0)).drew) := HO4.out.then_below (below_trans (below_alloc _ _) (below_drew _))
    have HO7 : Hid (Only [l] w ((w4.alloc (.map #[] 0)).alloc (.cells (txc j (c : Int) 0 (some w4.heap.size) (.slice none 0 0) false false) 127)).drew) := HO4.out.then_below (below_trans (below_trans (below_alloc _ _) (below_alloc _ _)) (below_drew _))
    go_region_held3 (fun V => V.cell? ⟨A, 0, none⟩ = some (.int .i64 (c : Int)) ∧ V.cell? ⟨B, 0, none⟩ = some (.pointer (some ⟨s, 0, none⟩)) ∧ V.cell? ⟨s, 0, none⟩ = some (.iface 117 (.pointer (some ⟨j, 0, none⟩)))) (first | exact HC.out _ HO5.out | exact HC.out _ HO6.out | exact HC.out _ HO7.out) (fail)
  all_goals
    go_wp2
    go_ret2
    exact ⟨w4.heap.size + 1, rfl, HBg.out _ HG4.out HO4.out⟩
theorem BgW.after {w V w' : World} {j d mb l : Nat} {room : Int} {L : List Int} {c t : Nat} (hb : Below w.heap.size w V) (h : BgW V w' j d mb l room L c t) : BgW w w' j d mb l room L c t := by
  obtain ⟨pm, h1, h2, h3, h4, h5, h6, h7⟩ := h
  have := hb.size
  exact ⟨pm, h1, h2, h3, h4, Only.after_below hb h5, by omega, by omega⟩
theorem tellT_e (w : World) (A B s j d mb l : Nat) (room : Int) (L : List Int) (h : Gr w j d mb l room L) (c : Nat) (hc : MayB L c) (hA : Blk w A #[.int .i64 (c : Int)] 3) (hB : Blk w B #[.pointer (some ⟨s, 0, none⟩)] 22) (hS : Blk w s #[.iface 117 (.pointer (some ⟨j, 0, none⟩))] 115) :
    Calls Tryz.prog 59 #[.func (.func 60) #[.pointer (some ⟨s, 0, none⟩)] #[], .func (.func 61) #[] #[.pointer (some ⟨A, 0, none⟩), .pointer (some ⟨B, 0, none⟩)]] w fun e w' => ∃ t, e = .returned (.tuple #[.pointer (some ⟨t, 0, none⟩), .int .i64 0]) ∧ BgW w w' j d mb l room L c t := by
  have HG := hide (sgoesOn_e w s j d mb l room L (hS.cell 0) h)
  have HM := hide (fun V (hb : Below w.heap.size w V) => begin1_e V A B s j d mb l room L (h.later hb) c hc (hA.later hb) (hB.later hb) (hS.later hb))
  clear h hA hB hS hc
  go_enter Tryz.func59, Tryz.ntmps59
  go_wp2_with (first
    | (go_at_call 60; (with_reducible refine Calls.mono HG.out ?_); rintro e w4 ⟨rfl, hb⟩; have HB4 := hide hb; clear hb)
    | (go_at_call 61; (with_reducible refine Calls.mono (HM.out _ HB4.out) ?_); rintro e w5 ⟨t, rfl, hb⟩; have HB5 := hide (hb.after HB4.out); clear hb))
  go_ret2
  exact ⟨t, rfl, HB5.out⟩
theorem begin_e (w : World) (s j d mb l : Nat) (room : Int) (L : List Int) (h : Gr w j d mb l room L) (c : Nat) (hc : MayB L c) (hS : Blk w s #[.iface 117 (.pointer (some ⟨j, 0, none⟩))] 115) :
    Calls Tryz.prog 10 #[.pointer (some ⟨s, 0, none⟩), .int .i64 (c : Int)] w fun e w' => ∃ t, e = .returned (.tuple #[.pointer (some ⟨t, 0, none⟩), .int .i64 0]) ∧ BgW w w' j d mb l room L c t := by
  have hs1 : (w.alloc (.cells #[.pointer (some ⟨s, 0, none⟩)] 22)).heap.size = w.heap.size + 1 := by simp
  have HB0 : Hid (Below w.heap.size w ((w.alloc (.cells #[.pointer (some ⟨s, 0, none⟩)] 22)).alloc (.cells #[.int .i64 (c : Int)] 3))) := below_trans (below_alloc _ _) (below_alloc _ _)
  have hB := (Blk.new w #[.pointer (some ⟨s, 0, none⟩)] 22).later (below_alloc _ (.cells #[.int .i64 (c : Int)] 3))
  have hA := Blk.new (w.alloc (.cells #[.pointer (some ⟨s, 0, none⟩)] 22)) #[.int .i64 (c : Int)] 3
  rw [hs1] at hA
  have HD := hide (tellT_e _ (w.heap.size + 1) w.heap.size s j d mb l room L (h.later HB0.out) c hc hA hB (hS.later HB0.out))
  have HAf := hide (fun (w' : World) (t : Nat) hb => BgW.after (w' := w') (j := j) (d := d) (mb := mb) (l := l) (room := room) (L := L) (c := c) (t := t) HB0.out hb)
  clear h hA hB hS hc hs1
  go_enter Tryz.func10, Tryz.ntmps10
  go_wp2_with (first
    | (go_at_call 59; (with_reducible refine Calls.mono HD.out ?_); rintro e w5 ⟨t, rfl, hb⟩; have HB5 := hide (HAf.out _ _ hb); clear hb))
  go_ret2
  exact ⟨t, rfl, HB5.out⟩
end Go.Proofs.YtenfjbcigkolaaaGreat
