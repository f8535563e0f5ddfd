/- A page of a transaction. -/
import Derived.Test.YtenfjbcigkolaaaGreatTI
import Derived.Test.YtenfjbcigkolaaaGreatGF
namespace Go.Proofs.YtenfjbcigkolaaaGreat
variable {sv : Value}
open Go.ChangeShapes Go.WideShapes Go.ChangeAt Go.RowKit Go.Maps
set_option linter.unusedVariables false

theorem PAt.only {w w' : World} {b : Nat} {l : List UInt8} {S : List Nat} (h : PAt w b l) (ho : Only S w w') (hn : b ∉ S) : PAt w' b l := ho.blk h hn
theorem blk_cells {g : Nat} {t : TypeId} : ∀ (vs : List Value) (o : Nat) (w : World) (c : Array Value), Blk w g c t → o + vs.length ≤ c.size → Blk (w.setCells g o vs) g (c.toList.take o ++ vs ++ c.toList.drop (o + vs.length)).toArray t
  | [], o, w, c, h, _ => by simpa [World.setCells] using h
  | v :: r, o, w, c, h, hs => by
    simp only [List.length_cons] at hs
    have := blk_cells r (o + 1) (w.setCell ⟨g, o, none⟩ v) _ (h.set o v) (by simp; omega)
    show Blk ((w.setCell ⟨g, o, none⟩ v).setCells g (o + 1) r) g _ t
    rw [show (c.toList.take o ++ v :: r ++ c.toList.drop (o + (v :: r).length)) = ((c.setIfInBounds o v).toList.take (o + 1) ++ r ++ (c.setIfInBounds o v).toList.drop (o + 1 + r.length)) from ?_]
    · exact this
    · rw [Array.toList_setIfInBounds, List.take_set, List.drop_set, if_pos (by omega), List.take_add_one, List.set_append_right _ _ (by simp; omega)]
      have hlen : o < c.toList.length := by simp; omega
      rw [List.getElem?_eq_getElem hlen, List.length_take, Nat.min_eq_left (by omega), Nat.sub_self]
      simp [Nat.add_assoc, Nat.add_comm 1 r.length]
theorem PAt.cells {w : World} {g : Nat} {l l0 : List UInt8} (h : PAt w g l0) (h0 : l0.length = 256) (hl : l.length = 256) : PAt (w.setCells g 0 (bcl l)) g l := by
  have := blk_cells (bcl l) 0 w (bc l0) h (by rw [bc_size, h0]; simp [bcl, hl])
  rw [List.take_zero, List.nil_append, List.drop_of_length_le (by simp [bc, bcl, h0, hl]), List.append_nil] at this
  exact this
theorem only_cells (b : Nat) : ∀ (vs : List Value) (o : Nat) (w : World), Only [b] w (w.setCells b o vs)
  | [], o, w => Only.refl _ _
  | v :: r, o, w => (Only.setCell w ⟨b, o, none⟩ v).trans (only_cells b r (o + 1) _)
theorem bcl_one (l : List UInt8) : ∀ v ∈ bcl l, v.oneCell' = true := by
  intro v hv
  simp only [bcl, List.mem_map] at hv
  obtain ⟨b, _, rfl⟩ := hv
  rfl
theorem PAt.there {w : World} {g : Nat} {l0 l : List UInt8} (h : PAt w g l0) (h0 : l0.length = 256) (hl : l.length = 256) : w.there g 0 (bcl l).length := fun j hj => by
  have hj2 : j < 256 := by simpa [bcl, hl] using hj
  rw [Nat.zero_add]
  exact ⟨by rw [h.cell (by omega)]; rfl, h.frozen j⟩
set_option maxRecDepth 20000 in
set_option maxHeartbeats 2000000 in
theorem page1_in (w : World) (A B t pm n : Nat) {P : Nat → List UInt8} {K : Nat} {wr : Bool} (h : Tr sv w t pm n P K wr) (k : Nat) (h1 : 1 ≤ k) (h2 : k ≤ n) (hA : w.cell? ⟨A, 0, none⟩ = some (.int .i64 (k : Int))) (hB : w.cell? ⟨B, 0, none⟩ = some (.pointer (some ⟨t, 0, none⟩))) :
    Calls Tryz.prog 66 #[.pointer (some ⟨A, 0, none⟩), .pointer (some ⟨B, 0, none⟩)] w fun e w' => e = .returned (.tuple #[.agg (bc (P k)), .int .i64 0]) ∧ Below w.heap.size w w' := by
  have l1 : ¬ (k : Int) < 1 := by omega
  have l2 : ¬ (n : Int) < (k : Int) := by omega
  have HB0 := hide (below_alloc w (.cells (bc zs) 32))
  have HZ := hide (PAt.new w zs)
  have HL := hide (h.len k)
  have few := h.few
  have HC : Hid (∀ V, Below w.heap.size w V → V.cell? ⟨A, 0, none⟩ = some (.int .i64 (k : Int)) ∧ V.cell? ⟨B, 0, none⟩ = some (.pointer (some ⟨t, 0, none⟩)) ∧ V.cell? ⟨t, 3, none⟩ = some (.int .i64 (n : Int)) ∧ V.cell? ⟨t, 4, none⟩ = some (.map (some pm))) := fun V hb => ⟨cell_later hb hA, cell_later hb hB, (h.later hb).c3, (h.later hb).c4⟩
  have HLk : Hid (∀ V, Below w.heap.size w V → (Instr.lookup 122 (.map (some pm)) (.int .i64 (k : Int)) true).run Tryz.prog V = .ok (.tuple #[.agg (bc (P k)), .bool true]) V) := fun V hb => look_page (h.mp.later hb) h1 h2 (by omega)
  clear h hA hB few h1 h2
  have hz := zeroP
  go_enter Tryz.func66, Tryz.ntmps66
  go_upto_region 1 with fail
  go_name_world W0 hW0
  rw [hW0] at HB0 HZ
  have HB0d : Hid (Below w.heap.size w W0.drew) := below_trans HB0.out (below_drew _)
  go_region_held3 (fun V => V.cell? ⟨A, 0, none⟩ = some (.int .i64 (k : Int)) ∧ V.cell? ⟨B, 0, none⟩ = some (.pointer (some ⟨t, 0, none⟩)) ∧ V.cell? ⟨t, 3, none⟩ = some (.int .i64 (n : Int)) ∧ V.cell? ⟨t, 4, none⟩ = some (.map (some pm))) (exact HC.out _ HB0d.out) (fail)
  go_upto_region 3 with fail
  have HB0e : Hid (Below w.heap.size w W0.drew.drew) := below_trans HB0d.out (below_drew _)
  have HN : Hid (PAt (W0.alloc (.cells (bc zs) 32)).drew.drew W0.heap.size zs) := PAt.new W0 zs
  have HB1 : Hid (Below w.heap.size w (W0.alloc (.cells (bc zs) 32)).drew.drew) := below_trans HB0.out (below_trans (below_alloc W0 _) (below_trans (below_drew _) (below_drew _)))
  have HZ1 : Hid (PAt (W0.alloc (.cells (bc zs) 32)).drew.drew w.heap.size zs) := (HZ.out.later (below_alloc W0 _) : PAt (W0.alloc (.cells (bc zs) 32)) w.heap.size zs)
  have hlk := HLk.out _ HB0e.out
  have hlk2 := HLk.out _ HB1.out
  have HLt : Hid (w.heap.size < W0.heap.size) := (Array.getElem?_eq_some_iff.1 HZ.out).1
  have hone := bcl_one (P k)
  have hth := HN.out.there zs_length HL.out
  have hsz : (Tryz.prog.info? 32).map (·.size) = some (bcl (P k)).length := by rw [page_info]; simp [bcl, HL.out]
  have HB2 : Hid (Below w.heap.size w ((W0.alloc (.cells (bc zs) 32)).drew.drew.setCells W0.heap.size 0 (bcl (P k)))) := below_only1 HB1.out (only_cells _ _ _ _) (by have := HLt.out; omega)
  have HP2 := hide (HN.out.cells zs_length HL.out)
  have HZ2 := hide (HZ1.out.only (only_cells W0.heap.size (bcl (P k)) 0 _) (by have := HLt.out; simp; omega))
  go_region_held3 (fun V => V.cell? ⟨A, 0, none⟩ = some (.int .i64 (k : Int)) ∧ V.cell? ⟨B, 0, none⟩ = some (.pointer (some ⟨t, 0, none⟩)) ∧ V.cell? ⟨t, 3, none⟩ = some (.int .i64 (n : Int)) ∧ V.cell? ⟨t, 4, none⟩ = some (.map (some pm))) (first | exact HC.out _ HB0e.out | exact HC.out _ HB1.out | exact HC.out _ HB2.out) (fail)
  all_goals first | exact hsz | skip
  all_goals
    clear hlk hlk2 hone hth hsz
    generalize (W0.alloc (.cells (bc zs) 32)).drew.drew.setCells W0.heap.size 0 (bcl (P k)) = W2 at HB2 HP2 HZ2 ⊢
    go_wp2_with (first
      | ((with_reducible refine atLd 32 ?_); refine wp_loadP HL.out HP2.out _ (by rfl) (by rfl) (by rfl) ?_)
      | ((with_reducible refine atSt 32 ?_); refine wp_storeP HL.out zs_length HZ2.out _ _ (by rfl) (by rfl) (by rfl) (by rfl) ?_; intro W3 hp hb hk; have HP3 := hide hp; have HB3 := hide (hb _ _ HB2.out (by omega)); clear hp hb hk)
      | (exact ret_page2 Tryz.results66 rfl rfl HL.out HP3.out ⟨rfl, HB3.out⟩))
end Go.Proofs.YtenfjbcigkolaaaGreat
