/- Package space: the first page is put. -/
import Derived.Test.YtenfjbcigkolaaaGreatSB
namespace Go.Proofs.YtenfjbcigkolaaaGreat
open Go.ChangeShapes Go.WideShapes Go.ChangeAt Go.RowKit Go.Maps
set_option linter.unusedVariables false

def markS : ByteArray := ⟨#[98, 117, 114, 101, 97, 117, 32, 49]⟩
/-- The numbers of the first page as cells; its fields. -/
def nmL (N : Nat → Nat) : List Value := (List.range 8).map fun i => .int .u32 (N i : Int)
def fstL (L : Nat) (N : Nat → Nat) : List Value := .int .u32 (L : Int) :: nmL N
/-- The cells of the first page, and the page. -/
def fS (N : Nat → Nat) : Nat → ByteArray
  | 0 => markS
  | i + 1 => cellB (N i)
def firstL (L : Nat) (N : Nat → Nat) : List UInt8 := pageL 0 L 9 (fS N)
theorem fS_sizes (N : Nat → Nat) : ∀ i, i < 9 → (fS N i).size ≠ 0 ∧ (fS N i).size ≤ 60 := fun i _ => by
  cases i with
  | zero => exact ⟨by show markS.size ≠ 0; decide, by show markS.size ≤ 60; decide⟩
  | succ i => exact ⟨by rw [fS, cellB_size]; decide, by rw [fS, cellB_size]; decide⟩
theorem fS_cat (N : Nat → Nat) : (cat (fS N) 9).length = 40 := by
  simp only [cat_len, show (cat (fS N) 0).length = 0 from rfl]
  rfl
theorem firstL_length (L : Nat) (N : Nat → Nat) : (firstL L N).length = 256 := pageL_length (by rw [fS_cat]; omega)
theorem nmL_length (N : Nat → Nat) : (nmL N).length = 8 := by simp [nmL]
theorem fstL_length (L : Nat) (N : Nat → Nat) : (fstL L N).length = 9 := by simp [fstL, nmL_length]
theorem nmL_get (N : Nat → Nat) {j : Nat} (h : j < 8) : (nmL N)[j]? = some (.int .u32 (N j : Int)) := by simp [nmL, h]
theorem infoF : (Tryz.prog.info? 151).map (·.size) = some 9 := by kernel_rfl
theorem infoN : (Tryz.prog.info? 64).map (·.size) = some 8 := by kernel_rfl
theorem sizeF (L : Nat) (N : Nat → Nat) : (Tryz.prog.info? 151).map (·.size) = some (fstL L N).toArray.size := by rw [List.size_toArray, fstL_length]; exact infoF
theorem uF : ∃ d, Tryz.prog.underlying 151 = some d ∧ d.isRow = true := ⟨_, Tryz.underlying151, rfl⟩
theorem fstL_one (L : Nat) (N : Nat → Nat) : (fstL L N).toArray.all (·.oneCell') = true := all_oneCell_toArray (by
  intro v hv
  simp only [fstL, nmL, List.mem_cons, List.mem_map] at hv
  rcases hv with rfl | ⟨i, _, rfl⟩ <;> rfl)
/-- Its fields in memory. -/
abbrev FstB (w : World) (g : Nat) (L : Nat) (N : Nat → Nat) : Prop := Blk w g (fstL L N).toArray 151
theorem FstB.link {w : World} {g L : Nat} {N : Nat → Nat} (h : FstB w g L N) : w.cell? ⟨g, 0, none⟩ = some (.int .u32 (L : Int)) := h.cell 0
theorem FstB.nums {w : World} {g L : Nat} {N : Nat → Nat} (h : FstB w g L N) : w.rangeAt g 1 (nmL N) := fun j v hv => by
  rw [h.cell]
  simp only [fstL, List.getElem?_toArray]
  rw [Nat.add_comm, List.getElem?_cons_succ]
  exact hv
theorem wp_loadN {ops : Array Oper} {rest : List Oper} {o : Oper} {a : Act} {Q : Exit → Act → World → Prop} {w : World} {g : Nat} {N : Nat → Nat} (hg : w.rangeAt g 1 (nmL N)) (x : Operand)
    (hgd : o.guard = none) (ho : o.op = .load 64 x) (hx : a.eval x = .pointer (some ⟨g, 1, none⟩)) (hk : wpList Tryz.prog ops Q rest (a.put o.dst (.agg (nmL N).toArray)) w) : wpList Tryz.prog ops Q (o :: rest) a w :=
  wpList_load_mid hgd 64 x ho g 1 hx (nmL N) _ hg Tryz.underlying64 rfl (by rw [nmL_length]; exact infoN) hk
theorem index_num (W : World) (N : Nat → Nat) {j : Nat} (hj : j < 8) :
    (Instr.index 64 (.agg (nmL N).toArray) (.int .i64 j)).run Tryz.prog W = .ok (.int .u32 (N j : Int)) W := by
  have hn : (0 : Int) ≤ (j : Int) ∧ (j : Int) < 8 := by omega
  have hx := nmL_get N hj
  simp [Instr.index, run_underlying Tryz.underlying64, asIntOf, go_sem, hj, hx]
theorem new_first (w : World) (L : Nat) (hL : L < 4294967296) (N : Nat → Nat) (g cap : Nat) (h : StrAt w g 0 9 (fS N)) : Calls Tryz.prog 134 #[.int .u8 0, .int .u32 (L : Int), .slice (some ⟨g, 0, none⟩) 9 cap] w fun e w' => e = .returned (.tuple #[.agg (bc (firstL L N)), .int .i64 0]) ∧ Below w.heap.size w w' := by
  have hE : cErr 9 (fS N) = 0 := cErr_of (fS_sizes N)
  refine (new_ok 0 L (by omega) hL g 0 9 cap (fS N) (by omega) hE w h).mono ?_
  rintro e w' ⟨⟨l, x, hl, hx, rfl⟩, hb⟩
  refine ⟨?_, hb⟩
  unfold NewIs at hx
  rw [if_neg (by omega), if_neg (by rw [hE]; simp), if_pos (by rw [fS_cat]; omega)] at hx
  rw [hx.1, hx.2]; rfl
set_option maxRecDepth 20000 in
set_option maxHeartbeats 2000000 in
theorem sput_e (w : World) (v : Option Addr) (L : Nat) (hL : L < 4294967296) (N : Nat → Nat) (hN : ∀ i, N i < 4294967296) (E : Int) (R : World → Prop) (h : PtK w v 1 (firstL L N) E R) :
    Calls Tryz.prog 92 #[.pointer v, .agg (fstL L N).toArray] w fun e w' => e = .returned (.int .i64 E) ∧ R w' := by
  have hs1 : (w.alloc (.cells (fstL L N).toArray 151)).heap.size = w.heap.size + 1 := by simp
  have HF0 := hide (Blk.new w (fstL L N).toArray 151)
  have HB0 := hide (below_alloc w (.cells (fstL L N).toArray 151))
  obtain ⟨W1, hW1⟩ : ∃ W1, W1 = (w.alloc (.cells (fstL L N).toArray 151)).alloc (.cells #[.string markS] 9) := ⟨_, rfl⟩
  have HB1 : Hid (Below w.heap.size w W1) := by rw [hW1]; exact below_trans HB0.out (below_alloc _ _)
  have HF1 : Hid (FstB W1 w.heap.size L N) := by rw [hW1]; exact HF0.out.later (below_alloc _ _)
  have HR1 : Hid (W1.ownsRow (w.heap.size + 1) 9 1 (.slice (some ⟨w.heap.size + 1, 0, none⟩) 1 1) 1 (strL 1 (fS N))) := by
    refine ⟨rfl, .inr ⟨w.heap.size + 1, 1, #[.string markS], rfl, Nat.le_refl _, ?_, Nat.le_refl _, by simp only [maxLen]; omega, rfl, rfl⟩⟩
    rw [hW1, ← hs1]; exact heap_alloc_new _ _
  have HP := hide h
  have HN := hide hN
  have HLL := hide hL
  have HS1 := hide (show W1.heap.size = w.heap.size + 2 by rw [hW1]; simp)
  have HC := hide (fun V i => cellOf_e V (N i) (hN i))
  have hz := zeroP
  have HLn := hide (firstL_length L N)
  clear h hN hs1 hL
  subst hW1
  go_enter Tryz.func92, Tryz.ntmps92
  go_wp2_with (first
    | ((with_reducible refine atLd 64 ?_); refine wp_loadN HF1.out.nums _ (by rfl) (by rfl) (by rfl) ?_))
  have hW0s : (w.alloc (.cells (fstL L N).toArray 151)).heap.size = w.heap.size + 1 := by simp
  have HBs : Hid (Below (w.heap.size + 1) (w.alloc (.cells (fstL L N).toArray 151)) ((w.alloc (.cells (fstL L N).toArray 151)).alloc (.cells #[.string markS] 9))) := by rw [← hW0s]; exact below_alloc _ _
  have HW0 := hide hW0s
  generalize w.alloc (.cells (fstL L N).toArray 151) = W0 at *
  clear hW0s
  go_loopw [13, 5] (fun iv rv wr => ∃ j : Nat, j ≤ 8 ∧ iv = .int .i64 (j : Int) ∧ ∃ p c, rv = .slice p (j + 1) c ∧ wr.ownsRow (w.heap.size + 1) 9 1 (.slice p (j + 1) c) (j + 1) (strL (j + 1) (fS N)) ∧ Below (w.heap.size + 1) W0 wr) (fun iv _ _ => 8 - (intOf iv).toNat)
  case atStart => exact ⟨0, Nat.zero_le _, rfl, _, _, rfl, HR1.out, HBs.out⟩
  case round =>
    obtain ⟨j, hj, rfl, p, c, rfl, hown, hbel⟩ := hrel
    have HOj := hide hown
    have HBj := hide hbel
    have HBj' : Hid (Below W0.heap.size W0 wr) := by rw [HW0.out]; exact hbel
    clear hown hbel
    by_cases hlt : j < 8
    · have l1 : (j : Int) < 8 := by omega
      have l0 : (0 : Int) ≤ (j : Int) := by omega
      have hw1 : IntKind.i64.wrap ((j : Int) + 1) = (j : Int) + 1 := by rw [IntKind.wrap_i64]; omega
      have hix := index_num wr N hlt
      have HNj : Hid ((j + 1 + 1) * 16 ≤ 140737488355328) := by show _ ≤ _; omega
      have HSj := hide (strL_snoc (j + 1) (fS N))
      rw [show fS N (j + 1) = cellB (N j) from rfl] at HSj
      have HSz : Hid (∀ V, Below (w.heap.size + 1) W0 V → w.heap.size + 1 ≤ V.heap.size) := fun V hb => by have := hb.size; have := HW0.out; omega
      have HCj := hide (fun V => HC.out V j)
      generalize cellB (N j) = cs at HCj HSj
      go_wp2_with (first
        | (go_at_call 133; (with_reducible refine Calls.mono (HCj.out _) ?_); rintro e w4 ⟨rfl, hb⟩; have HB4 := hide (below_trans HBj'.out (below_trans hb (below_alloc w4 (.cells #[.string cs] 9)))); have HO4 := hide (own_later HOj.out (below_trans hb (below_alloc w4 (.cells #[.string cs] 9)))); clear hb)
        | (at_builtin; refine wp_appS HO4.out (m := 1) (news := [.string cs]) rfl (one_cell w4 _ _) (one_str _) HNj.out (HSz.out _ (by rw [← HW0.out]; exact HB4.out)) _ _ (by rfl) (by rfl) (by rfl) (by rfl) ?_; intro v2 w5 ho hk; have HB5 := hide (hk _ (show Below (w.heap.size + 1) W0 _ by rw [← HW0.out]; exact HB4.out)); obtain ⟨p2, c2, rfl⟩ := own_form ho; have HO5 := hide ho; clear ho hk))
      refine ⟨⟨j + 1, hlt, rfl, p2, c2, rfl, ?_, HB5.out⟩, ?_⟩
      · rw [HSj.out]; exact HO5.out
      · simp only [intOf]; omega
    · obtain rfl : j = 8 := by omega
      obtain ⟨g, rfl, hst⟩ := own_strAt HOj.out (by omega)
      have HNw := hide (new_first wr L HLL.out N g c hst)
      have c0 : wr.cell? ⟨w.heap.size, 0, none⟩ = some (.int .u32 (L : Int)) := FstB.link (N := N) (Blk.later HF0.out HBj'.out)
      have HBw := hide (below_trans HB0.out HBj'.out)
      have HPe := hide (fun V (hb : Below w.heap.size w V) => by
        obtain ⟨R', hR', hR⟩ := HP.out.later hb
        exact (put_e V v 1 (firstL L N) HLn.out E R' hR').mono (fun e w' hh => (And.intro hh.1 (hR _ hh.2) : e = .returned (.int .i64 E) ∧ R w')))
      generalize firstL L N = fl at *
      clear hst
      go_wp2_with (first
        | (go_at_call 134; (with_reducible refine Calls.mono HNw.out ?_); rintro e w6 ⟨rfl, hb⟩; have HB6 := hide (below_trans HBw.out (below_trans hb (below_alloc w6 (.cells (bc zs) 32)))); have HN6 := hide (PAt.new w6 zs); have HS6 := hide (Nat.le_trans HBw.out.size hb.size); clear hb)
        | ((with_reducible refine atSt 32 ?_); refine wp_storeP HLn.out zs_length HN6.out _ _ (by rfl) (by rfl) (by rfl) (by rfl) ?_; intro W7 hp hb hk; have HP7 := hide hp; have HB7 := hide (hb _ _ HB6.out HS6.out); clear hp hb hk)
        | ((with_reducible refine atLd 32 ?_); refine wp_loadP HLn.out HP7.out _ (by rfl) (by rfl) (by rfl) ?_)
        | (go_at_call 15; (with_reducible refine Calls.mono (HPe.out _ HB7.out) ?_); rintro e w8 ⟨rfl, hr⟩; have HR8 := hide hr; clear hr))
      go_ret
      exact ⟨rfl, HR8.out⟩
end Go.Proofs.YtenfjbcigkolaaaGreat
