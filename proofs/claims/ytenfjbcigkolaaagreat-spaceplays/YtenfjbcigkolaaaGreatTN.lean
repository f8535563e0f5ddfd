/- A store by the journal is opened on a disk that was just made; a transaction is begun. -/
import Derived.Test.YtenfjbcigkolaaaGreatTM
namespace Go.Proofs.YtenfjbcigkolaaaGreat
open Go.ChangeShapes Go.WideShapes Go.ChangeAt Go.RowKit Go.Maps
set_option linter.unusedVariables false

theorem newDisk_e (w : World) (room : Int) (hr : 0 < room) : Calls Tryz.prog 28 #[.int .i64 room] w fun e w' => e = .returned (.pointer (some ⟨w.heap.size + 1, 0, none⟩)) ∧ DE w' (w.heap.size + 1) w.heap.size room ∧ Below w.heap.size w w' := by
  have hmk : ∀ V : World, (Instr.makeMap 145 none).run Tryz.prog V = .ok (.map (some V.heap.size)) (V.alloc (.map #[] 0)) := fun V => rfl
  have hm : max room 0 = room := by omega
  have HB : Hid (Below w.heap.size w ((w.alloc (.map #[] 0)).alloc (.cells (dkc w.heap.size room) 148))) := below_trans (below_alloc _ _) (below_alloc _ _)
  have hs1 : (w.alloc (.map #[] 0)).heap.size = w.heap.size + 1 := by simp
  have HD : Hid (DE ((w.alloc (.map #[] 0)).alloc (.cells (dkc w.heap.size room) 148)) (w.heap.size + 1) w.heap.size room) := by
    refine ⟨?_, ?_⟩
    · rw [← hs1]; exact Blk.new _ _ _
    · exact (Below.heap_alloc _ _ _ (by simp)).trans (heap_alloc_new w _)
  have h1 : ¬ room < 0 := by omega
  clear hs1
  go_enter Tryz.func28, Tryz.ntmps28
  go_wp2
  go_ret
  exact ⟨rfl, HD.out, HB.out⟩
/-- A store that was opened. -/
def OpW (w w' : World) (d mb : Nat) (room : Int) (s : Nat) : Prop := ∃ j l, Blk w' s #[.iface 117 (.pointer (some ⟨j, 0, none⟩))] 115 ∧ Gr w' j d mb l room h0 ∧ Below w.heap.size w w' ∧ w.heap.size ≤ l
theorem infoGd : (Tryz.prog.info? 107).map (·.size) = some 3 := by kernel_rfl
theorem uGd : ∃ d, Tryz.prog.underlying 107 = some d ∧ d.isRow = true := ⟨_, Tryz.underlying107, rfl⟩
theorem opw_mk {w w6 : World} {d mb l : Nat} {room : Int} (hb : Below w.heap.size w w6) (ht : TB w6 l h0) (hd : DE w6 d mb room) (hl : w.heap.size ≤ l) :
    OpW w ((w6.alloc (.cells #[.pointer (some ⟨d, 0, none⟩), .int .i64 0, .pointer (some ⟨l, 0, none⟩)] 119)).alloc (.cells #[.iface 117 (.pointer (some ⟨w6.heap.size, 0, none⟩))] 115)) d mb room (w6.heap.size + 1) := by
  have hs1 : (w6.alloc (.cells #[.pointer (some ⟨d, 0, none⟩), .int .i64 0, .pointer (some ⟨l, 0, none⟩)] 119)).heap.size = w6.heap.size + 1 := by simp
  have hB := below_trans (below_alloc w6 (.cells #[.pointer (some ⟨d, 0, none⟩), .int .i64 0, .pointer (some ⟨l, 0, none⟩)] 119)) (below_alloc _ (.cells #[.iface 117 (.pointer (some ⟨w6.heap.size, 0, none⟩))] 115))
  refine ⟨w6.heap.size, l, ?_, ⟨(Blk.new w6 _ _).later (below_alloc _ _), hd.later hB, Blk.later ht hB, h0_length⟩, below_trans hb hB, hl⟩
  rw [← hs1]; exact Blk.new _ _ _
set_option maxRecDepth 20000 in
set_option maxHeartbeats 2000000 in
theorem openJ_e (w : World) (d mb : Nat) (room : Int) (h : DE w d mb room) : Calls Tryz.prog 9 #[.pointer (some ⟨d, 0, none⟩), .bool false] w fun e w' => ∃ s, e = .returned (.tuple #[.pointer (some ⟨s, 0, none⟩), .int .i64 0]) ∧ OpW w w' d mb room s := by
  have HR := hide (recover_e w d mb room h)
  have HM := hide (fun V (hb : Below w.heap.size w V) => mark_e V d mb room (h.later hb))
  have HS := hide (fun V (hb : Below w.heap.size w V) => starts_e V d mb room (h.later hb))
  have HN := hide new_any
  have HK := hide (fun V (hb : Below w.heap.size w V) => checkpoint_e V d mb room (h.later hb))
  have HD := hide h
  clear h
  go_enter Tryz.func9, Tryz.ntmps9
  go_wp2_with (first
    | (go_at_call 54; (with_reducible refine Calls.mono HR.out ?_); rintro e w1 ⟨rfl, hb⟩; have HB1 := hide hb; clear hb)
    | (go_at_call 55; (with_reducible refine Calls.mono (HM.out _ HB1.out) ?_); rintro e w2 ⟨rfl, hb⟩; have HB2 := hide (below_trans HB1.out hb); clear hb)
    | (go_at_call 56; (with_reducible refine Calls.mono (HS.out _ HB2.out) ?_); rintro e w3 ⟨rfl, rfl⟩)
    | (go_at_call 57; (with_reducible refine Calls.mono (HN.out _) ?_); rintro e w4 ⟨rfl, htb, ho⟩; have HB4 := hide (below_only HB2.out ho (by simp)); have HT4 := hide htb; have HB5 := hide (below_trans HB4.out (below_alloc w4 (.cells #[.pointer (some ⟨d, 0, none⟩), .int .i64 0, .pointer (some ⟨w2.heap.size, 0, none⟩)] 107))); have HG5 := hide (Blk.new w4 #[.pointer (some ⟨d, 0, none⟩), .int .i64 0, .pointer (some ⟨w2.heap.size, 0, none⟩)] 107); have HT5 := hide (Blk.later HT4.out (below_alloc w4 (.cells #[.pointer (some ⟨d, 0, none⟩), .int .i64 0, .pointer (some ⟨w2.heap.size, 0, none⟩)] 107))); clear htb ho)
    | (go_at_call 58; (with_reducible refine Calls.mono (HK.out _ HB5.out) ?_); rintro e w6 ⟨rfl, hb⟩; have HB6 := hide (below_trans HB5.out hb); have c0 := ((HG5.out.later hb).cell 0).trans (show _ = some (Value.pointer (some ⟨d, 0, none⟩)) from rfl); have c1 := ((HG5.out.later hb).cell 1).trans (show _ = some (Value.int .i64 0) from rfl); have c2 := ((HG5.out.later hb).cell 2).trans (show _ = some (Value.pointer (some ⟨w2.heap.size, 0, none⟩)) from rfl); have HT6 := hide (Blk.later HT5.out hb); clear hb))
  go_ret2
  exact ⟨w6.heap.size + 1, rfl, opw_mk HB6.out HT6.out (HD.out.later HB6.out) HB2.out.size⟩
/-- The store goes on. -/
theorem sthere_e (w : World) (s j : Nat) (h0 : w.cell? ⟨s, 0, none⟩ = some (.iface 117 (.pointer (some ⟨j, 0, none⟩)))) : Calls Tryz.prog 87 #[.pointer (some ⟨s, 0, none⟩)] w fun e w' => e = .returned (.bool true) ∧ w = w' := by
  have hn := face_neq
  go_enter Tryz.func87, Tryz.ntmps87
  go_wp2
  go_ret
  exact ⟨rfl, rfl⟩
theorem sgoesOn_e (w : World) (s j d mb l : Nat) (room : Int) (L : List Int) (h0 : w.cell? ⟨s, 0, none⟩ = some (.iface 117 (.pointer (some ⟨j, 0, none⟩)))) (h : Gr w j d mb l room L) : Calls Tryz.prog 60 #[.pointer (some ⟨s, 0, none⟩)] w fun e w' => e = .returned (.int .i64 0) ∧ Below w.heap.size w w' := by
  have HT := hide (sthere_e w s j h0)
  have HV := hide (over_e w j d mb l room L h)
  clear h
  go_enter Tryz.func60, Tryz.ntmps60
  go_wp2_with (first
    | (go_at_call 87; (with_reducible refine Calls.mono HT.out ?_); rintro e w4 ⟨rfl, rfl⟩)
    | (go_at_call 291; (with_reducible refine Calls.mono HV.out ?_); rintro e w5 ⟨rfl, hb⟩; have HB := hide hb; clear hb))
  go_ret
  exact ⟨rfl, HB.out⟩
/-- A connection that holds nothing, and may read. -/
structure MayB (L : List Int) (c : Nat) : Prop where
  lt : c < 8
  no : gt L c = 0
  ok : tkE L (c : Int) 1 = 0
theorem jbegin_e (w : World) (j d mb l : Nat) (room : Int) (L : List Int) (h : Gr w j d mb l room L) (c : Nat) (hc : MayB L c) : Calls Tryz.prog 315 #[.pointer (some ⟨j, 0, none⟩), .int .i64 (c : Int)] w fun e w' => e = .returned (.tuple #[.int .i64 0, .int .i64 0]) ∧ Gr w' j d mb l room (tkH L (c : Int) 1) ∧ Only [l] w w' := by
  have HH := hide (has_in w l L h.l8 h.lk c hc.lt)
  rw [hc.no] at HH
  have HT := hide (take_some w l L h.l8 h.lk (c : Int) 1)
  rw [hc.ok] at HT
  have c0 := h.j0
  have c2 := h.j2
  have nl : j ≠ l := blk_ne h.jr h.lk (by decide)
  have nd : d ≠ l := blk_ne h.de.blk h.lk (by decide)
  have nm : l ≠ mb := blk_map h.lk h.de.mp
  have HG : Hid (∀ V, TB V l (tkH L (c : Int) 1) → Only [l] w V → Gr V j d mb l room (tkH L (c : Int) 1)) := fun V ht ho => ⟨h.jr.only ho (by simpa using nl), h.de.only ho (by simpa using nd) (by simp; omega), ht, by rw [tkH_length]; exact h.l8⟩
  have HJ := hide (fun V (hg : Gr V j d mb l room (tkH L (c : Int) 1)) => jcount_e V d mb room hg.de)
  clear h nl nd nm hc
  go_enter Tryz.func315, Tryz.ntmps315
  go_wp2_with (first
    | (go_at_call 322; (with_reducible refine Calls.mono HH.out ?_); rintro e w4 ⟨rfl, rfl⟩)
    | (go_at_call 300; (with_reducible refine Calls.mono HT.out ?_); rintro e w5 ⟨rfl, ht, ho⟩; have HG5 := hide (HG.out _ ht ho); have HO5 := hide ho; have q0 := HG5.out.j0; clear ht ho)
    | (go_at_call 162; (with_reducible refine Calls.mono (HJ.out _ HG5.out) ?_); rintro e w6 ⟨rfl, hb⟩; have HG6 := hide (HG5.out.later hb); have HO6 := hide (HO5.out.then_below hb); clear hb))
  go_ret2
  exact ⟨rfl, HG6.out, HO6.out⟩
end Go.Proofs.YtenfjbcigkolaaaGreat
