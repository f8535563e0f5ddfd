/- A store by the journal is opened on a disk that was just made; a transaction is begun. -/
/- A transaction is begun. -/
import Derived.Test.YthgclfhfipfknaaGreatTM
namespace Go.Proofs.YthgclfhfipfknaaGreat
open Go.ChangeShapes Go.WideShapes Go.ChangeAt Go.RowKit Go.Maps
set_option linter.unusedVariables false

theorem newDisk_e (w : World) (room : Int) (hr : 0 < room) : Calls Tryz.prog 23 #[.int .i64 room] w fun e w' => e = .returned (.pointer (some ⟨w.heap.size + 1, 0, none⟩)) ∧ DE w' (w.heap.size + 1) w.heap.size room ∧ Below w.heap.size w w' := by
  have hmk : ∀ V : World, (Instr.makeMap 142 none).run Tryz.prog V = .ok (.map (some V.heap.size)) (V.alloc (.map #[] 0)) := fun V => rfl
  have hm : max room 0 = room := by omega
  have HB : Hid (Below w.heap.size w ((w.alloc (.map #[] 0)).alloc (.cells (dkc w.heap.size room) 145))) := below_trans (below_alloc _ _) (below_alloc _ _)
  have hs1 : (w.alloc (.map #[] 0)).heap.size = w.heap.size + 1 := by simp
  have HD : Hid (DE ((w.alloc (.map #[] 0)).alloc (.cells (dkc w.heap.size room) 145)) (w.heap.size + 1) w.heap.size room) := by
    refine ⟨?_, ?_⟩
    · rw [← hs1]; exact Blk.new _ _ _
    · exact (Below.heap_alloc _ _ _ (by simp)).trans (heap_alloc_new w _)
  have h1 : ¬ room < 0 := by omega
  clear hs1
  go_enter Tryz.func23, Tryz.ntmps23
  go_wp2
  go_ret
  exact ⟨rfl, HD.out, HB.out⟩
/-- A store that was opened. -/
def OpW (w w' : World) (d mb : Nat) (room : Int) (s : Nat) : Prop := ∃ j l, Blk w' s #[.iface 139 (.pointer (some ⟨j, 0, none⟩))] 137 ∧ Gr w' j d mb l room h0 ∧ Below w.heap.size w w' ∧ w.heap.size ≤ l
theorem infoGd : (Tryz.prog.info? 131).map (·.size) = some 3 := by kernel_rfl
theorem uGd : ∃ d, Tryz.prog.underlying 131 = some d ∧ d.isRow = true := ⟨_, Tryz.underlying131, rfl⟩
theorem opw_mk {w w6 : World} {d mb l : Nat} {room : Int} (hb : Below w.heap.size w w6) (ht : TB w6 l h0) (hd : DE w6 d mb room) (hl : w.heap.size ≤ l) :
    OpW w ((w6.alloc (.cells #[.pointer (some ⟨d, 0, none⟩), .int .i64 0, .pointer (some ⟨l, 0, none⟩)] 141)).alloc (.cells #[.iface 139 (.pointer (some ⟨w6.heap.size, 0, none⟩))] 137)) d mb room (w6.heap.size + 1) := by
  have hs1 : (w6.alloc (.cells #[.pointer (some ⟨d, 0, none⟩), .int .i64 0, .pointer (some ⟨l, 0, none⟩)] 141)).heap.size = w6.heap.size + 1 := by simp
  have hB := below_trans (below_alloc w6 (.cells #[.pointer (some ⟨d, 0, none⟩), .int .i64 0, .pointer (some ⟨l, 0, none⟩)] 141)) (below_alloc _ (.cells #[.iface 139 (.pointer (some ⟨w6.heap.size, 0, none⟩))] 137))
  refine ⟨w6.heap.size, l, ?_, ⟨(Blk.new w6 _ _).later (below_alloc _ _), hd.later hB, Blk.later ht hB, h0_length⟩, below_trans hb hB, hl⟩
  rw [← hs1]; exact Blk.new _ _ _
set_option maxRecDepth 20000 in
set_option maxHeartbeats 2000000 in
theorem openJ_e (w : World) (d mb : Nat) (room : Int) (h : DE w d mb room) : Calls Tryz.prog 22 #[.pointer (some ⟨d, 0, none⟩), .bool false] w fun e w' => ∃ s, e = .returned (.tuple #[.pointer (some ⟨s, 0, none⟩), .int .i64 0]) ∧ OpW w w' d mb room s := by
  have HR := hide (recover_e w d mb room h)
  have HM := hide (fun V (hb : Below w.heap.size w V) => mark_e V d mb room (h.later hb))
  have HS := hide (fun V (hb : Below w.heap.size w V) => starts_e V d mb room (h.later hb))
  have HN := hide new_any
  have HK := hide (fun V (hb : Below w.heap.size w V) => checkpoint_e V d mb room (h.later hb))
  have HD := hide h
  clear h
  go_enter Tryz.func22, Tryz.ntmps22
  go_wp2_with (first
    | (go_at_call 60; (with_reducible refine Calls.mono HR.out ?_); rintro e w1 ⟨rfl, hb⟩; have HB1 := hide hb; clear hb)
    | (go_at_call 61; (with_reducible refine Calls.mono (HM.out _ HB1.out) ?_); rintro e w2 ⟨rfl, hb⟩; have HB2 := hide (below_trans HB1.out hb); clear hb)
    | (go_at_call 62; (with_reducible refine Calls.mono (HS.out _ HB2.out) ?_); rintro e w3 ⟨rfl, rfl⟩)
    | (go_at_call 63; (with_reducible refine Calls.mono (HN.out _) ?_); rintro e w4 ⟨rfl, htb, ho⟩; have HB4 := hide (below_only HB2.out ho (by simp)); have HT4 := hide htb; have HB5 := hide (below_trans HB4.out (below_alloc w4 (.cells #[.pointer (some ⟨d, 0, none⟩), .int .i64 0, .pointer (some ⟨w2.heap.size, 0, none⟩)] 131))); have HG5 := hide (Blk.new w4 #[.pointer (some ⟨d, 0, none⟩), .int .i64 0, .pointer (some ⟨w2.heap.size, 0, none⟩)] 131); have HT5 := hide (Blk.later HT4.out (below_alloc w4 (.cells #[.pointer (some ⟨d, 0, none⟩), .int .i64 0, .pointer (some ⟨w2.heap.size, 0, none⟩)] 131))); clear htb ho)
    | (go_at_call 64; (with_reducible refine Calls.mono (HK.out _ HB5.out) ?_); rintro e w6 ⟨rfl, hb⟩; have HB6 := hide (below_trans HB5.out hb); have c0 := ((HG5.out.later hb).cell 0).trans (show _ = some (Value.pointer (some ⟨d, 0, none⟩)) from rfl); have c1 := ((HG5.out.later hb).cell 1).trans (show _ = some (Value.int .i64 0) from rfl); have c2 := ((HG5.out.later hb).cell 2).trans (show _ = some (Value.pointer (some ⟨w2.heap.size, 0, none⟩)) from rfl); have HT6 := hide (Blk.later HT5.out hb); clear hb))
  go_ret2
  exact ⟨w6.heap.size + 1, rfl, opw_mk HB6.out HT6.out (HD.out.later HB6.out) HB2.out.size⟩
/-- The store goes on. -/
theorem sthere_e (w : World) (s j : Nat) (h0 : w.cell? ⟨s, 0, none⟩ = some (.iface 139 (.pointer (some ⟨j, 0, none⟩)))) : Calls Tryz.prog 135 #[.pointer (some ⟨s, 0, none⟩)] w fun e w' => e = .returned (.bool true) ∧ w = w' := by
  have hn := face_neq
  go_enter Tryz.func135, Tryz.ntmps135
  go_wp2
  go_ret
  exact ⟨rfl, rfl⟩
theorem sgoesOn_e (w : World) (s j d mb l : Nat) (room : Int) (L : List Int) (h0 : w.cell? ⟨s, 0, none⟩ = some (.iface 139 (.pointer (some ⟨j, 0, none⟩)))) (h : Gr w j d mb l room L) : Calls Tryz.prog 66 #[.pointer (some ⟨s, 0, none⟩)] w fun e w' => e = .returned (.int .i64 0) ∧ Below w.heap.size w w' := by
  have HT := hide (sthere_e w s j h0)
  have HV := hide (over_e w j d mb l room L h)
  clear h
  go_enter Tryz.func66, Tryz.ntmps66
  go_wp2_with (first
    | (go_at_call 135; (with_reducible refine Calls.mono HT.out ?_); rintro e w4 ⟨rfl, rfl⟩)
    | (go_at_call 361; (with_reducible refine Calls.mono HV.out ?_); rintro e w5 ⟨rfl, hb⟩; have HB := hide hb; clear hb))
  go_ret
  exact ⟨rfl, HB.out⟩
/-- A connection that holds nothing, and may read. -/
structure MayB (L : List Int) (c : Nat) : Prop where
  lt : c < 8
  no : gt L c = 0
  ok : tkE L (c : Int) 1 = 0
theorem jbegin_e (w : World) (j d mb l : Nat) (room : Int) (L : List Int) (h : Gr w j d mb l room L) (c : Nat) (hc : MayB L c) : Calls Tryz.prog 378 #[.pointer (some ⟨j, 0, none⟩), .int .i64 (c : Int)] w fun e w' => e = .returned (.tuple #[.int .i64 0, .int .i64 0]) ∧ Gr w' j d mb l room (tkH L (c : Int) 1) ∧ Only [l] w w' := by
  have HH := hide (has_in w l L h.l8 h.lk c hc.lt)
  rw [hc.no] at HH
  have HT := hide (take_some w l L h.l8 h.lk (c : Int) 1)
  rw [hc.ok] at HT
  have c0 := h.j0
  have c2 := h.j2
  have nl : j ≠ l := blk_ne h.jr h.lk (by decide)
  have nd : d ≠ l := blk_ne h.de.blk h.lk (by decide)
  have nm : l ≠ mb := blk_map h.lk h.de.mp
  have HG : Hid (∀ V, TB V l (tkH L (c : Int) 1) → Only [l] w V → Gr V j d mb l room (tkH L (c : Int) 1)) := fun V ht ho => ⟨h.jr.only ho (by simpa using nl), h.de.only ho (by simpa using nd) (by simp; omega), ht, by rw [tkH_length]; exact h.l8⟩
  have HJ := hide (fun V (hg : Gr V j d mb l room (tkH L (c : Int) 1)) => jcount_e V d mb room hg.de)
  clear h nl nd nm hc
  go_enter Tryz.func378, Tryz.ntmps378
  go_wp2_with (first
    | (go_at_call 385; (with_reducible refine Calls.mono HH.out ?_); rintro e w4 ⟨rfl, rfl⟩)
    | (go_at_call 368; (with_reducible refine Calls.mono HT.out ?_); rintro e w5 ⟨rfl, ht, ho⟩; have HG5 := hide (HG.out _ ht ho); have HO5 := hide ho; have q0 := HG5.out.j0; clear ht ho)
    | (go_at_call 209; (with_reducible refine Calls.mono (HJ.out _ HG5.out) ?_); rintro e w6 ⟨rfl, hb⟩; have HG6 := hide (HG5.out.later hb); have HO6 := hide (HO5.out.then_below hb); clear hb))
  go_ret2
  exact ⟨rfl, HG6.out, HO6.out⟩
end Go.Proofs.YthgclfhfipfknaaGreat

namespace Go.Proofs.YthgclfhfipfknaaGreat
open Go.ChangeShapes Go.WideShapes Go.ChangeAt Go.RowKit Go.Maps
set_option linter.unusedVariables false

/-- What Begin leaves. -/
def BgW (w w' : World) (j d mb l : Nat) (room : Int) (L : List Int) (c t : Nat) : Prop := ∃ pm, Gr w' j d mb l room (tkH L (c : Int) 1) ∧ TxB w' t j (c : Int) 0 (some pm) (.slice none 0 0) false false ∧ (∀ P, MpI w' pm 0 0 P) ∧ (mb ≠ pm ∧ mb < t) ∧ Only [l] w w' ∧ w.heap.size ≤ t ∧ w.heap.size ≤ pm
theorem bgw_mk {w w6 : World} {j d mb l : Nat} {room : Int} {L : List Int} {c : Nat} (hg : Gr w6 j d mb l room (tkH L (c : Int) 1)) (ho : Only [l] w w6) :
    BgW w ((w6.alloc (.map #[] 0)).alloc (.cells (txc j (c : Int) 0 (some w6.heap.size) (.slice none 0 0) false false) 122)).drew j d mb l room L c (w6.heap.size + 1) := by
  have hs1 : (w6.alloc (.map #[] 0)).heap.size = w6.heap.size + 1 := by simp
  have hB : Below w6.heap.size w6 ((w6.alloc (.map #[] 0)).alloc (.cells (txc j (c : Int) 0 (some w6.heap.size) (.slice none 0 0) false false) 122)).drew := below_trans (below_trans (below_alloc _ _) (below_alloc _ _)) (below_drew _)
  refine ⟨w6.heap.size, hg.later hB, ?_, fun P => ⟨.map [], ?_, ⟨[], rfl⟩, fun k h1 h2 => by omega⟩, ?_, ho.then_below hB, by have := ho.size; omega, ho.size⟩
  · show Blk ((w6.alloc (.map #[] 0)).alloc _) _ _ _
    rw [← hs1]; exact Blk.new _ _ _
  · exact ((World.ownsMap_made w6 Tryz.prog 3 heldR).kept (grown_of_below (below_trans (below_alloc _ _) (below_drew _))) (by simp))
  · have := (Array.getElem?_eq_some_iff.1 hg.de.mp).1; omega
set_option maxRecDepth 20000 in
set_option maxHeartbeats 2000000 in
theorem begin1_e (w : World) (A B s j d mb l : Nat) (room : Int) (L : List Int) (h : Gr w j d mb l room L) (c : Nat) (hc : MayB L c) (hA : Blk w A #[.int .i64 (c : Int)] 3) (hB : Blk w B #[.pointer (some ⟨s, 0, none⟩)] 62) (hS : Blk w s #[.iface 139 (.pointer (some ⟨j, 0, none⟩))] 137) :
    Calls Tryz.prog 67 #[.pointer (some ⟨A, 0, none⟩), .pointer (some ⟨B, 0, none⟩)] w fun e w' => ∃ t, e = .returned (.tuple #[.pointer (some ⟨t, 0, none⟩), .int .i64 0]) ∧ BgW w w' j d mb l room L c t := by
  have hlt := hc.lt
  have l0 : ¬ (c : Int) < 0 := by omega
  have l1 : ¬ (8 : Int) ≤ (c : Int) := by omega
  have hmk : ∀ V : World, (Instr.makeMap 115 none).run Tryz.prog V = .ok (.map (some V.heap.size)) (V.alloc (.map #[] 0)) := fun V => rfl
  have HC : Hid (∀ V, Only [l] w V → V.cell? ⟨A, 0, none⟩ = some (.int .i64 (c : Int)) ∧ V.cell? ⟨B, 0, none⟩ = some (.pointer (some ⟨s, 0, none⟩)) ∧ V.cell? ⟨s, 0, none⟩ = some (.iface 139 (.pointer (some ⟨j, 0, none⟩)))) := fun V ho =>
    ⟨(hA.only ho (by have := blk_ne hA h.lk (by decide); simpa using this)).cell 0, (hB.only ho (by have := blk_ne hB h.lk (by decide); simpa using this)).cell 0, (hS.only ho (by have := blk_ne hS h.lk (by decide); simpa using this)).cell 0⟩
  have HJ := hide (jbegin_e w.drew j d mb l room L h.drew c hc)
  have HO0 : Hid (Only [l] w w.drew) := Only.drew _ _
  have cA := hA.cell 0
  have HBg := hide (fun (w6 : World) (hg : Gr w6 j d mb l room (tkH L (c : Int) 1)) (ho : Only [l] w w6) => bgw_mk hg ho)
  clear h hA hB hS hlt hc
  replace cA : w.cell? ⟨A, 0, none⟩ = some (.int .i64 (c : Int)) := cA
  go_enter Tryz.func67, Tryz.ntmps67
  go_upto_region 3 with fail
  clear cA
  go_region_held3 (fun V => V.cell? ⟨A, 0, none⟩ = some (.int .i64 (c : Int)) ∧ V.cell? ⟨B, 0, none⟩ = some (.pointer (some ⟨s, 0, none⟩)) ∧ V.cell? ⟨s, 0, none⟩ = some (.iface 139 (.pointer (some ⟨j, 0, none⟩)))) (first | exact HC.out _ HO0.out | exact HC.out _ HO4.out) (first
    | (go_at_call 378; (with_reducible refine Calls.mono HJ.out ?_); rintro e w4 ⟨rfl, hg, ho⟩; have HG4 := hide hg; have HO4 := hide (HO0.out.trans ho); clear hg ho))
  all_goals
    go_upto_region 6 with fail
    have HO5 : Hid (Only [l] w w4.drew) := HO4.out.trans (Only.drew _ _)
    have HO6 : Hid (Only [l] w (w4.alloc (.map #[] 0)).drew) := HO4.out.then_below (below_trans (below_alloc _ _) (below_drew _))
    have HO7 : Hid (Only [l] w ((w4.alloc (.map #[] 0)).alloc (.cells (txc j (c : Int) 0 (some w4.heap.size) (.slice none 0 0) false false) 122)).drew) := HO4.out.then_below (below_trans (below_trans (below_alloc _ _) (below_alloc _ _)) (below_drew _))
    go_region_held3 (fun V => V.cell? ⟨A, 0, none⟩ = some (.int .i64 (c : Int)) ∧ V.cell? ⟨B, 0, none⟩ = some (.pointer (some ⟨s, 0, none⟩)) ∧ V.cell? ⟨s, 0, none⟩ = some (.iface 139 (.pointer (some ⟨j, 0, none⟩)))) (first | exact HC.out _ HO5.out | exact HC.out _ HO6.out | exact HC.out _ HO7.out) (fail)
  all_goals
    go_wp2
    go_ret2
    exact ⟨w4.heap.size + 1, rfl, HBg.out _ HG4.out HO4.out⟩
theorem BgW.after {w V w' : World} {j d mb l : Nat} {room : Int} {L : List Int} {c t : Nat} (hb : Below w.heap.size w V) (h : BgW V w' j d mb l room L c t) : BgW w w' j d mb l room L c t := by
  obtain ⟨pm, h1, h2, h3, h4, h5, h6, h7⟩ := h
  have := hb.size
  exact ⟨pm, h1, h2, h3, h4, Only.after_below hb h5, by omega, by omega⟩
theorem tellT_e (w : World) (A B s j d mb l : Nat) (room : Int) (L : List Int) (h : Gr w j d mb l room L) (c : Nat) (hc : MayB L c) (hA : Blk w A #[.int .i64 (c : Int)] 3) (hB : Blk w B #[.pointer (some ⟨s, 0, none⟩)] 62) (hS : Blk w s #[.iface 139 (.pointer (some ⟨j, 0, none⟩))] 137) :
    Calls Tryz.prog 65 #[.func (.func 66) #[.pointer (some ⟨s, 0, none⟩)] #[], .func (.func 67) #[] #[.pointer (some ⟨A, 0, none⟩), .pointer (some ⟨B, 0, none⟩)]] w fun e w' => ∃ t, e = .returned (.tuple #[.pointer (some ⟨t, 0, none⟩), .int .i64 0]) ∧ BgW w w' j d mb l room L c t := by
  have HG := hide (sgoesOn_e w s j d mb l room L (hS.cell 0) h)
  have HM := hide (fun V (hb : Below w.heap.size w V) => begin1_e V A B s j d mb l room L (h.later hb) c hc (hA.later hb) (hB.later hb) (hS.later hb))
  clear h hA hB hS hc
  go_enter Tryz.func65, Tryz.ntmps65
  go_wp2_with (first
    | (go_at_call 66; (with_reducible refine Calls.mono HG.out ?_); rintro e w4 ⟨rfl, hb⟩; have HB4 := hide hb; clear hb)
    | (go_at_call 67; (with_reducible refine Calls.mono (HM.out _ HB4.out) ?_); rintro e w5 ⟨t, rfl, hb⟩; have HB5 := hide (hb.after HB4.out); clear hb))
  go_ret2
  exact ⟨t, rfl, HB5.out⟩
theorem begin_e (w : World) (s j d mb l : Nat) (room : Int) (L : List Int) (h : Gr w j d mb l room L) (c : Nat) (hc : MayB L c) (hS : Blk w s #[.iface 139 (.pointer (some ⟨j, 0, none⟩))] 137) :
    Calls Tryz.prog 24 #[.pointer (some ⟨s, 0, none⟩), .int .i64 (c : Int)] w fun e w' => ∃ t, e = .returned (.tuple #[.pointer (some ⟨t, 0, none⟩), .int .i64 0]) ∧ BgW w w' j d mb l room L c t := by
  have hs1 : (w.alloc (.cells #[.pointer (some ⟨s, 0, none⟩)] 62)).heap.size = w.heap.size + 1 := by simp
  have HB0 : Hid (Below w.heap.size w ((w.alloc (.cells #[.pointer (some ⟨s, 0, none⟩)] 62)).alloc (.cells #[.int .i64 (c : Int)] 3))) := below_trans (below_alloc _ _) (below_alloc _ _)
  have hB := (Blk.new w #[.pointer (some ⟨s, 0, none⟩)] 62).later (below_alloc _ (.cells #[.int .i64 (c : Int)] 3))
  have hA := Blk.new (w.alloc (.cells #[.pointer (some ⟨s, 0, none⟩)] 62)) #[.int .i64 (c : Int)] 3
  rw [hs1] at hA
  have HD := hide (tellT_e _ (w.heap.size + 1) w.heap.size s j d mb l room L (h.later HB0.out) c hc hA hB (hS.later HB0.out))
  have HAf := hide (fun (w' : World) (t : Nat) hb => BgW.after (w' := w') (j := j) (d := d) (mb := mb) (l := l) (room := room) (L := L) (c := c) (t := t) HB0.out hb)
  clear h hA hB hS hc hs1
  go_enter Tryz.func24, Tryz.ntmps24
  go_wp2_with (first
    | (go_at_call 65; (with_reducible refine Calls.mono HD.out ?_); rintro e w5 ⟨t, rfl, hb⟩; have HB5 := hide (HAf.out _ _ hb); clear hb))
  go_ret2
  exact ⟨t, rfl, HB5.out⟩
end Go.Proofs.YthgclfhfipfknaaGreat
