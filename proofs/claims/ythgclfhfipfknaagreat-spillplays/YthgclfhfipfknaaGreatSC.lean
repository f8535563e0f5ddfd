/- Package space: a free page; the first page is put. -/
/- Package space: the first page is put. -/
import Derived.Test.YthgclfhfipfknaaGreatPLA
import Derived.Test.YthgclfhfipfknaaGreatOI
import Derived.Stop.BytesEq
namespace Go.Proofs.YthgclfhfipfknaaGreat
open Go.ChangeShapes Go.WideShapes Go.ChangeAt Go.RowKit Go.Maps
set_option linter.unusedVariables false

def noS : Nat → ByteArray := fun _ => ⟨#[]⟩
/-- The free page with that link. -/
def freeL (L : Nat) : List UInt8 := pageL 0 L 0 noS
theorem freeL_length (L : Nat) : (freeL L).length = 256 := pageL_length (by simp [cat])
theorem new_free (w : World) (L : Nat) (hL : L < 4294967296) : Calls Tryz.prog 182 #[.int .u8 0, .int .u32 (L : Int), .slice none 0 0] w fun e w' => e = .returned (.tuple #[.agg (bc (freeL L)), .int .i64 0]) ∧ Below w.heap.size w w' := by
  refine (new_nil 0 L (by omega) hL none 0 noS w).mono ?_
  rintro e w' ⟨⟨l, x, hl, hx, rfl⟩, hb⟩
  refine ⟨?_, hb⟩
  unfold NewIs at hx
  rw [if_neg (by omega), if_neg (by rw [cErr_of (fun i hi => by omega)]; simp), if_pos (by simp [cat])] at hx
  rw [hx.1, hx.2]; rfl
set_option maxRecDepth 20000 in
set_option maxHeartbeats 1000000 in
theorem freePage_e (w : World) (L : Nat) (hL : L < 4294967296) : Calls Tryz.prog 116 #[.int .u32 (L : Int)] w fun e w' => e = .returned (.agg (bc (freeL L))) ∧ Below w.heap.size w w' := by
  have HN := hide (fun V => new_free V L hL)
  have HB0 := hide (below_alloc w (.cells (bc zs) 59))
  have HZ := hide (PAt.new w zs)
  have HL := hide (freeL_length L)
  have hz := zeroP
  generalize freeL L = l at *
  go_enter Tryz.func116, Tryz.ntmps116
  go_wp2_with (first
    | (go_at_call 182; (with_reducible refine Calls.mono (HN.out _) ?_); rintro e w4 ⟨rfl, hb⟩; have HB4 := hide (below_trans HB0.out hb); have HZ4 := hide (HZ.out.later hb); have HN4 := hide (PAt.new w4 zs); have HZ5 := hide (HZ4.out.later (below_alloc w4 (.cells (bc zs) 59))); have HB5 := hide (below_trans HB4.out (below_alloc w4 (.cells (bc zs) 59))); have HLt := hide HB4.out.size; clear hb)
    | ((with_reducible refine atSt 59 ?_); refine wp_storeP HL.out zs_length HN4.out _ _ (by rfl) (by rfl) (by rfl) (by rfl) ?_; intro W6 hp hb hk; have HP6 := hide hp; have HB6 := hide (hb _ _ HB5.out (by have := HLt.out; omega)); have HZ6 := hide ((hk w.heap.size (by have := (Array.getElem?_eq_some_iff.1 HZ4.out).1; omega)).trans HZ5.out); clear hp hb hk)
    | ((with_reducible refine atLd 59 ?_); refine wp_loadP HL.out HP6.out _ (by rfl) (by rfl) (by rfl) ?_)
    | ((with_reducible refine atSt 59 ?_); refine wp_storeP HL.out zs_length HZ6.out _ _ (by rfl) (by rfl) (by rfl) (by rfl) ?_; intro W7 hp hb hk; have HP7 := hide hp; have HB7 := hide (hb _ _ HB6.out (Nat.le_refl _)); clear hp hb hk)
    | (exact ret_page Tryz.results116 rfl HL.out HP7.out ⟨rfl, HB7.out⟩))
/-- Is it the free page of its link? -/
noncomputable def isFree (l : List UInt8) : Bool := l == freeL (linkV l)
theorem linkV_lt (l : List UInt8) : linkV l < 4294967296 := by
  unfold linkV
  split
  · exact lnk_lt l
  · omega
theorem eql_page (V : World) (l r : List UInt8) (hl : l.length = 256) (hr : r.length = 256) : (binOp .eql 59 (.agg (bc l)) (.agg (bc r))).run Tryz.prog V = .ok (.bool (l == r)) V := by
  have := run_eql_bytes (P := Tryz.prog) (w := V) 59 5 256 Tryz.underlying59 Tryz.underlying5 (fun w => by kernel_rfl) l r hl hr
  exact this
set_option maxRecDepth 20000 in
set_option maxHeartbeats 1000000 in
theorem freeLink_e (w : World) (l : List UInt8) (hl : l.length = 256) : Calls Tryz.prog 123 #[.agg (bc l)] w fun e w' => e = .returned (.tuple #[.int .u32 (linkV l : Int), .bool (isFree l)]) ∧ Below w.heap.size w w' := by
  have HB0 := hide (below_alloc w (.cells (bc l) 59))
  have HP := hide (PAt.new w l)
  have HK := hide (fun V => link_walk l hl V)
  have HF := hide (fun V => freePage_e V (linkV l) (linkV_lt l))
  have hq : ∀ V : World, (binOp .eql 59 (.agg (bcl l).toArray) (.agg (bc (freeL (linkV l))))).run Tryz.prog V = .ok (.bool (isFree l)) V := fun V => eql_page V l _ hl (freeL_length _)
  have hu := page_arr
  have hsz : (Tryz.prog.info? 59).map (·.size) = some (bcl l).length := by rw [page_info]; simp [bcl, hl]
  generalize isFree l = b at *
  generalize bc (freeL (linkV l)) = fl at *
  have HL := hide hl
  clear hl
  go_enter Tryz.func123, Tryz.ntmps123
  go_upto_region 2 with (first
    | ((with_reducible refine atLd 59 ?_); refine wp_loadP HL.out HP.out _ (by rfl) (by rfl) (by rfl) ?_)
    | (go_at_call 107; (with_reducible refine Calls.mono (HK.out _) ?_); rintro e w4 ⟨rfl, hb⟩; have HB4 := hide (below_trans HB0.out hb); have HP4 := hide (HP.out.later hb); clear hb))
  have HR4 : Hid (w4.drew.rangeAt w.heap.size 0 (bcl l)) := (show PAt w4.drew w.heap.size l from HP4.out).rng
  have HP4d : Hid (PAt w4.drew w.heap.size l) := HP4.out
  have HB4d : Hid (Below w.heap.size w w4.drew) := below_trans HB4.out (below_drew _)
  go_region_held3 (fun V => V.rangeAt w.heap.size 0 (bcl l)) (first | exact HR4.out | exact HR5.out) (first
    | (go_at_call 116; (with_reducible refine Calls.mono (HF.out _) ?_); rintro e w5 ⟨rfl, hb⟩; have HB5 := hide (below_trans HB4d.out hb); have HR5 := hide ((HP4d.out.later hb).rng); clear hb))
  all_goals
    go_wp2
    go_ret2
    exact ⟨rfl, HB5.out⟩
end Go.Proofs.YthgclfhfipfknaaGreat

namespace Go.Proofs.YthgclfhfipfknaaGreat
open Go.ChangeShapes Go.WideShapes Go.ChangeAt Go.RowKit Go.Maps
set_option linter.unusedVariables false

def markS : ByteArray := ⟨#[98, 117, 114, 101, 97, 117, 32, 49]⟩
/-- The numbers of the first page as cells; its fields. -/
def nmL (N : Nat → Nat) : List Value := (List.range 8).map fun i => .int .u32 (N i : Int)
def fstL (L : Nat) (N : Nat → Nat) : List Value := .int .u32 (L : Int) :: nmL N
/-- The cells of the first page, and the page. -/
def fS (N : Nat → Nat) : Nat → ByteArray
  | 0 => markS
  | i + 1 => cellB (N i)
def firstL (L : Nat) (N : Nat → Nat) : List UInt8 := pageL 0 L 9 (fS N)
theorem fS_sizes (N : Nat → Nat) : ∀ i, i < 9 → (fS N i).size ≠ 0 ∧ (fS N i).size ≤ 60 := fun i _ => by
  cases i with
  | zero => exact ⟨by show markS.size ≠ 0; decide, by show markS.size ≤ 60; decide⟩
  | succ i => exact ⟨by rw [fS, cellB_size]; decide, by rw [fS, cellB_size]; decide⟩
theorem fS_cat (N : Nat → Nat) : (cat (fS N) 9).length = 40 := by
  simp only [cat_len, show (cat (fS N) 0).length = 0 from rfl]
  rfl
theorem firstL_length (L : Nat) (N : Nat → Nat) : (firstL L N).length = 256 := pageL_length (by rw [fS_cat]; omega)
theorem nmL_length (N : Nat → Nat) : (nmL N).length = 8 := by simp [nmL]
theorem fstL_length (L : Nat) (N : Nat → Nat) : (fstL L N).length = 9 := by simp [fstL, nmL_length]
theorem nmL_get (N : Nat → Nat) {j : Nat} (h : j < 8) : (nmL N)[j]? = some (.int .u32 (N j : Int)) := by simp [nmL, h]
theorem infoF : (Tryz.prog.info? 105).map (·.size) = some 9 := by kernel_rfl
theorem infoN : (Tryz.prog.info? 29).map (·.size) = some 8 := by kernel_rfl
theorem sizeF (L : Nat) (N : Nat → Nat) : (Tryz.prog.info? 105).map (·.size) = some (fstL L N).toArray.size := by rw [List.size_toArray, fstL_length]; exact infoF
theorem uF : ∃ d, Tryz.prog.underlying 105 = some d ∧ d.isRow = true := ⟨_, Tryz.underlying105, rfl⟩
theorem fstL_one (L : Nat) (N : Nat → Nat) : (fstL L N).toArray.all (·.oneCell') = true := all_oneCell_toArray (by
  intro v hv
  simp only [fstL, nmL, List.mem_cons, List.mem_map] at hv
  rcases hv with rfl | ⟨i, _, rfl⟩ <;> rfl)
/-- Its fields in memory. -/
abbrev FstB (w : World) (g : Nat) (L : Nat) (N : Nat → Nat) : Prop := Blk w g (fstL L N).toArray 105
theorem FstB.link {w : World} {g L : Nat} {N : Nat → Nat} (h : FstB w g L N) : w.cell? ⟨g, 0, none⟩ = some (.int .u32 (L : Int)) := h.cell 0
theorem FstB.nums {w : World} {g L : Nat} {N : Nat → Nat} (h : FstB w g L N) : w.rangeAt g 1 (nmL N) := fun j v hv => by
  rw [h.cell]
  simp only [fstL, List.getElem?_toArray]
  rw [Nat.add_comm, List.getElem?_cons_succ]
  exact hv
theorem wp_loadN {ops : Array Oper} {rest : List Oper} {o : Oper} {a : Act} {Q : Exit → Act → World → Prop} {w : World} {g : Nat} {N : Nat → Nat} (hg : w.rangeAt g 1 (nmL N)) (x : Operand)
    (hgd : o.guard = none) (ho : o.op = .load 29 x) (hx : a.eval x = .pointer (some ⟨g, 1, none⟩)) (hk : wpList Tryz.prog ops Q rest (a.put o.dst (.agg (nmL N).toArray)) w) : wpList Tryz.prog ops Q (o :: rest) a w :=
  wpList_load_mid hgd 29 x ho g 1 hx (nmL N) _ hg Tryz.underlying29 rfl (by rw [nmL_length]; exact infoN) hk
theorem index_num (W : World) (N : Nat → Nat) {j : Nat} (hj : j < 8) :
    (Instr.index 29 (.agg (nmL N).toArray) (.int .i64 j)).run Tryz.prog W = .ok (.int .u32 (N j : Int)) W := by
  have hn : (0 : Int) ≤ (j : Int) ∧ (j : Int) < 8 := by omega
  have hx := nmL_get N hj
  simp [Instr.index, run_underlying Tryz.underlying29, asIntOf, go_sem, hj, hx]
theorem new_first (w : World) (L : Nat) (hL : L < 4294967296) (N : Nat → Nat) (g cap : Nat) (h : StrAt w g 0 9 (fS N)) : Calls Tryz.prog 182 #[.int .u8 0, .int .u32 (L : Int), .slice (some ⟨g, 0, none⟩) 9 cap] w fun e w' => e = .returned (.tuple #[.agg (bc (firstL L N)), .int .i64 0]) ∧ Below w.heap.size w w' := by
  have hE : cErr 9 (fS N) = 0 := cErr_of (fS_sizes N)
  refine (new_ok 0 L (by omega) hL g 0 9 cap (fS N) (by omega) hE w h).mono ?_
  rintro e w' ⟨⟨l, x, hl, hx, rfl⟩, hb⟩
  refine ⟨?_, hb⟩
  unfold NewIs at hx
  rw [if_neg (by omega), if_neg (by rw [hE]; simp), if_pos (by rw [fS_cat]; omega)] at hx
  rw [hx.1, hx.2]; rfl
set_option maxRecDepth 20000 in
set_option maxHeartbeats 2000000 in
theorem sput_e (w : World) (v : Option Addr) (L : Nat) (hL : L < 4294967296) (N : Nat → Nat) (hN : ∀ i, N i < 4294967296) (E : Int) (R : World → Prop) (h : PtK w v 1 (firstL L N) E R) :
    Calls Tryz.prog 96 #[.pointer v, .agg (fstL L N).toArray] w fun e w' => e = .returned (.int .i64 E) ∧ R w' := by
  have hs1 : (w.alloc (.cells (fstL L N).toArray 105)).heap.size = w.heap.size + 1 := by simp
  have HF0 := hide (Blk.new w (fstL L N).toArray 105)
  have HB0 := hide (below_alloc w (.cells (fstL L N).toArray 105))
  obtain ⟨W1, hW1⟩ : ∃ W1, W1 = (w.alloc (.cells (fstL L N).toArray 105)).alloc (.cells #[.string markS] 9) := ⟨_, rfl⟩
  have HB1 : Hid (Below w.heap.size w W1) := by rw [hW1]; exact below_trans HB0.out (below_alloc _ _)
  have HF1 : Hid (FstB W1 w.heap.size L N) := by rw [hW1]; exact HF0.out.later (below_alloc _ _)
  have HR1 : Hid (W1.ownsRow (w.heap.size + 1) 9 1 (.slice (some ⟨w.heap.size + 1, 0, none⟩) 1 1) 1 (strL 1 (fS N))) := by
    refine ⟨rfl, .inr ⟨w.heap.size + 1, 1, #[.string markS], rfl, Nat.le_refl _, ?_, Nat.le_refl _, by simp only [maxLen]; omega, rfl, rfl⟩⟩
    rw [hW1, ← hs1]; exact heap_alloc_new _ _
  have HP := hide h
  have HN := hide hN
  have HLL := hide hL
  have HS1 := hide (show W1.heap.size = w.heap.size + 2 by rw [hW1]; simp)
  have HC := hide (fun V i => cellOf_e V (N i) (hN i))
  have hz := zeroP
  have HLn := hide (firstL_length L N)
  clear h hN hs1 hL
  subst hW1
  go_enter Tryz.func96, Tryz.ntmps96
  go_wp2_with (first
    | ((with_reducible refine atLd 29 ?_); refine wp_loadN HF1.out.nums _ (by rfl) (by rfl) (by rfl) ?_))
  have hW0s : (w.alloc (.cells (fstL L N).toArray 105)).heap.size = w.heap.size + 1 := by simp
  have HBs : Hid (Below (w.heap.size + 1) (w.alloc (.cells (fstL L N).toArray 105)) ((w.alloc (.cells (fstL L N).toArray 105)).alloc (.cells #[.string markS] 9))) := by rw [← hW0s]; exact below_alloc _ _
  have HW0 := hide hW0s
  generalize w.alloc (.cells (fstL L N).toArray 105) = W0 at *
  clear hW0s
  go_loopw [13, 5] (fun iv rv wr => ∃ j : Nat, j ≤ 8 ∧ iv = .int .i64 (j : Int) ∧ ∃ p c, rv = .slice p (j + 1) c ∧ wr.ownsRow (w.heap.size + 1) 9 1 (.slice p (j + 1) c) (j + 1) (strL (j + 1) (fS N)) ∧ Below (w.heap.size + 1) W0 wr) (fun iv _ _ => 8 - (intOf iv).toNat)
  case atStart => exact ⟨0, Nat.zero_le _, rfl, _, _, rfl, HR1.out, HBs.out⟩
  case round =>
    obtain ⟨j, hj, rfl, p, c, rfl, hown, hbel⟩ := hrel
    have HOj := hide hown
    have HBj := hide hbel
    have HBj' : Hid (Below W0.heap.size W0 wr) := by rw [HW0.out]; exact hbel
    clear hown hbel
    by_cases hlt : j < 8
    · have l1 : (j : Int) < 8 := by omega
      have l0 : (0 : Int) ≤ (j : Int) := by omega
      have hw1 : IntKind.i64.wrap ((j : Int) + 1) = (j : Int) + 1 := by rw [IntKind.wrap_i64]; omega
      have hix := index_num wr N hlt
      have HNj : Hid ((j + 1 + 1) * 16 ≤ 140737488355328) := by show _ ≤ _; omega
      have HSj := hide (strL_snoc (j + 1) (fS N))
      rw [show fS N (j + 1) = cellB (N j) from rfl] at HSj
      have HSz : Hid (∀ V, Below (w.heap.size + 1) W0 V → w.heap.size + 1 ≤ V.heap.size) := fun V hb => by have := hb.size; have := HW0.out; omega
      have HCj := hide (fun V => HC.out V j)
      generalize cellB (N j) = cs at HCj HSj
      go_wp2_with (first
        | (go_at_call 181; (with_reducible refine Calls.mono (HCj.out _) ?_); rintro e w4 ⟨rfl, hb⟩; have HB4 := hide (below_trans HBj'.out (below_trans hb (below_alloc w4 (.cells #[.string cs] 9)))); have HO4 := hide (own_later HOj.out (below_trans hb (below_alloc w4 (.cells #[.string cs] 9)))); clear hb)
        | (at_builtin; refine wp_appS HO4.out (m := 1) (news := [.string cs]) rfl (one_cell w4 _ _) (one_str _) HNj.out (HSz.out _ (by rw [← HW0.out]; exact HB4.out)) _ _ (by rfl) (by rfl) (by rfl) (by rfl) ?_; intro v2 w5 ho hk; have HB5 := hide (hk _ (show Below (w.heap.size + 1) W0 _ by rw [← HW0.out]; exact HB4.out)); obtain ⟨p2, c2, rfl⟩ := own_form ho; have HO5 := hide ho; clear ho hk))
      refine ⟨⟨j + 1, hlt, rfl, p2, c2, rfl, ?_, HB5.out⟩, ?_⟩
      · rw [HSj.out]; exact HO5.out
      · simp only [intOf]; omega
    · obtain rfl : j = 8 := by omega
      obtain ⟨g, rfl, hst⟩ := own_strAt HOj.out (by omega)
      have HNw := hide (new_first wr L HLL.out N g c hst)
      have c0 : wr.cell? ⟨w.heap.size, 0, none⟩ = some (.int .u32 (L : Int)) := FstB.link (N := N) (Blk.later HF0.out HBj'.out)
      have HBw := hide (below_trans HB0.out HBj'.out)
      have HPe := hide (fun V (hb : Below w.heap.size w V) => by
        obtain ⟨R', hR', hR⟩ := HP.out.later hb
        exact (put_e V v 1 (firstL L N) HLn.out E R' hR').mono (fun e w' hh => (And.intro hh.1 (hR _ hh.2) : e = .returned (.int .i64 E) ∧ R w')))
      generalize firstL L N = fl at *
      clear hst
      go_wp2_with (first
        | (go_at_call 182; (with_reducible refine Calls.mono HNw.out ?_); rintro e w6 ⟨rfl, hb⟩; have HB6 := hide (below_trans HBw.out (below_trans hb (below_alloc w6 (.cells (bc zs) 59)))); have HN6 := hide (PAt.new w6 zs); have HS6 := hide (Nat.le_trans HBw.out.size hb.size); clear hb)
        | ((with_reducible refine atSt 59 ?_); refine wp_storeP HLn.out zs_length HN6.out _ _ (by rfl) (by rfl) (by rfl) (by rfl) ?_; intro W7 hp hb hk; have HP7 := hide hp; have HB7 := hide (hb _ _ HB6.out HS6.out); clear hp hb hk)
        | ((with_reducible refine atLd 59 ?_); refine wp_loadP HLn.out HP7.out _ (by rfl) (by rfl) (by rfl) ?_)
        | (go_at_call 20; (with_reducible refine Calls.mono (HPe.out _ HB7.out) ?_); rintro e w8 ⟨rfl, hr⟩; have HR8 := hide hr; clear hr))
      go_ret
      exact ⟨rfl, HR8.out⟩
end Go.Proofs.YthgclfhfipfknaaGreat
