/- Package space: a free page; the first page is put. -/
import Derived.Test.YtenfjbcigkolaaaGreatSA
import Derived.Test.YtenfjbcigkolaaaGreatOI
import Derived.Stop.BytesEq
namespace Go.Proofs.YtenfjbcigkolaaaGreat
open Go.ChangeShapes Go.WideShapes Go.ChangeAt Go.RowKit Go.Maps
set_option linter.unusedVariables false

def noS : Nat → ByteArray := fun _ => ⟨#[]⟩
/-- The free page with that link. -/
def freeL (L : Nat) : List UInt8 := pageL 0 L 0 noS
theorem freeL_length (L : Nat) : (freeL L).length = 256 := pageL_length (by simp [cat])
theorem new_free (w : World) (L : Nat) (hL : L < 4294967296) : Calls Tryz.prog 134 #[.int .u8 0, .int .u32 (L : Int), .slice none 0 0] w fun e w' => e = .returned (.tuple #[.agg (bc (freeL L)), .int .i64 0]) ∧ Below w.heap.size w w' := by
  refine (new_nil 0 L (by omega) hL none 0 noS w).mono ?_
  rintro e w' ⟨⟨l, x, hl, hx, rfl⟩, hb⟩
  refine ⟨?_, hb⟩
  unfold NewIs at hx
  rw [if_neg (by omega), if_neg (by rw [cErr_of (fun i hi => by omega)]; simp), if_pos (by simp [cat])] at hx
  rw [hx.1, hx.2]; rfl
set_option maxRecDepth 20000 in
set_option maxHeartbeats 1000000 in
theorem freePage_e (w : World) (L : Nat) (hL : L < 4294967296) : Calls Tryz.prog 101 #[.int .u32 (L : Int)] w fun e w' => e = .returned (.agg (bc (freeL L))) ∧ Below w.heap.size w w' := by
  have HN := hide (fun V => new_free V L hL)
  have HB0 := hide (below_alloc w (.cells (bc zs) 32))
  have HZ := hide (PAt.new w zs)
  have HL := hide (freeL_length L)
  have hz := zeroP
  generalize freeL L = l at *
  go_enter Tryz.func101, Tryz.ntmps101
  go_wp2_with (first
    | (go_at_call 134; (with_reducible refine Calls.mono (HN.out _) ?_); rintro e w4 ⟨rfl, hb⟩; have HB4 := hide (below_trans HB0.out hb); have HZ4 := hide (HZ.out.later hb); have HN4 := hide (PAt.new w4 zs); have HZ5 := hide (HZ4.out.later (below_alloc w4 (.cells (bc zs) 32))); have HB5 := hide (below_trans HB4.out (below_alloc w4 (.cells (bc zs) 32))); have HLt := hide HB4.out.size; clear hb)
    | ((with_reducible refine atSt 32 ?_); refine wp_storeP HL.out zs_length HN4.out _ _ (by rfl) (by rfl) (by rfl) (by rfl) ?_; intro W6 hp hb hk; have HP6 := hide hp; have HB6 := hide (hb _ _ HB5.out (by have := HLt.out; omega)); have HZ6 := hide ((hk w.heap.size (by have := (Array.getElem?_eq_some_iff.1 HZ4.out).1; omega)).trans HZ5.out); clear hp hb hk)
    | ((with_reducible refine atLd 32 ?_); refine wp_loadP HL.out HP6.out _ (by rfl) (by rfl) (by rfl) ?_)
    | ((with_reducible refine atSt 32 ?_); refine wp_storeP HL.out zs_length HZ6.out _ _ (by rfl) (by rfl) (by rfl) (by rfl) ?_; intro W7 hp hb hk; have HP7 := hide hp; have HB7 := hide (hb _ _ HB6.out (Nat.le_refl _)); clear hp hb hk)
    | (exact ret_page Tryz.results101 rfl HL.out HP7.out ⟨rfl, HB7.out⟩))
/-- Is it the free page of its link? -/
noncomputable def isFree (l : List UInt8) : Bool := l == freeL (linkV l)
theorem linkV_lt (l : List UInt8) : linkV l < 4294967296 := by
  unfold linkV
  split
  · exact lnk_lt l
  · omega
theorem eql_page (V : World) (l r : List UInt8) (hl : l.length = 256) (hr : r.length = 256) : (binOp .eql 32 (.agg (bc l)) (.agg (bc r))).run Tryz.prog V = .ok (.bool (l == r)) V := by
  have := run_eql_bytes (P := Tryz.prog) (w := V) 32 5 256 Tryz.underlying32 Tryz.underlying5 (fun w => by kernel_rfl) l r hl hr
  exact this
set_option maxRecDepth 20000 in
set_option maxHeartbeats 1000000 in
theorem freeLink_e (w : World) (l : List UInt8) (hl : l.length = 256) : Calls Tryz.prog 137 #[.agg (bc l)] w fun e w' => e = .returned (.tuple #[.int .u32 (linkV l : Int), .bool (isFree l)]) ∧ Below w.heap.size w w' := by
  have HB0 := hide (below_alloc w (.cells (bc l) 32))
  have HP := hide (PAt.new w l)
  have HK := hide (fun V => link_walk l hl V)
  have HF := hide (fun V => freePage_e V (linkV l) (linkV_lt l))
  have hq : ∀ V : World, (binOp .eql 32 (.agg (bcl l).toArray) (.agg (bc (freeL (linkV l))))).run Tryz.prog V = .ok (.bool (isFree l)) V := fun V => eql_page V l _ hl (freeL_length _)
  have hu := page_arr
  have hsz : (Tryz.prog.info? 32).map (·.size) = some (bcl l).length := by rw [page_info]; simp [bcl, hl]
  generalize isFree l = b at *
  generalize bc (freeL (linkV l)) = fl at *
  have HL := hide hl
  clear hl
  go_enter Tryz.func137, Tryz.ntmps137
  go_upto_region 2 with (first
    | ((with_reducible refine atLd 32 ?_); refine wp_loadP HL.out HP.out _ (by rfl) (by rfl) (by rfl) ?_)
    | (go_at_call 147; (with_reducible refine Calls.mono (HK.out _) ?_); rintro e w4 ⟨rfl, hb⟩; have HB4 := hide (below_trans HB0.out hb); have HP4 := hide (HP.out.later hb); clear hb))
  have HR4 : Hid (w4.drew.rangeAt w.heap.size 0 (bcl l)) := (show PAt w4.drew w.heap.size l from HP4.out).rng
  have HP4d : Hid (PAt w4.drew w.heap.size l) := HP4.out
  have HB4d : Hid (Below w.heap.size w w4.drew) := below_trans HB4.out (below_drew _)
  go_region_held3 (fun V => V.rangeAt w.heap.size 0 (bcl l)) (first | exact HR4.out | exact HR5.out) (first
    | (go_at_call 101; (with_reducible refine Calls.mono (HF.out _) ?_); rintro e w5 ⟨rfl, hb⟩; have HB5 := hide (below_trans HB4d.out hb); have HR5 := hide ((HP4d.out.later hb).rng); clear hb))
  all_goals
    go_wp2
    go_ret2
    exact ⟨rfl, HB5.out⟩
end Go.Proofs.YtenfjbcigkolaaaGreat
