/- slices.Collect of the pieces of a text. -/
/- Package spill: the page of a chain. -/
import Derived.RangeFuncBox
import Derived.Maps.AppendAt
import Derived.Maps.OwnIn
import Derived.Test.YthgclfhfipfknaaGreatPPB
import Derived.Test.YthgclfhfipfknaaGreatSC
namespace Go.Proofs.YthgclfhfipfknaaGreat
open Go.ChangeShapes Go.WideShapes Go.ChangeAt Go.RowKit Go.Shelf
set_option linter.unusedVariables false
attribute [local go_sem] Oper.semAt_some

def pcV (s : ByteArray) (z : Nat) (x : Fin (pcN s z)) : Value := .string (pcS s z x.val)
/-- The pieces so far lie in the box's row. -/
def ApI (w : World) (s : ByteArray) (z sz : Nat) (pre : List (Fin (pcN s z))) (W : World) : Prop := (∃ v, Boxed W w.heap.size 53 v ∧ W.ownsRow w.heap.size 9 1 v pre.length (pre.map (pcV s z)) ∧ True) ∧ Below w.heap.size w W ∧ sz ≤ W.heap.size
theorem apI_own (w : World) (s : ByteArray) (z sz B : Nat) (h : w.heap.size ≤ B) : OwnFrom B (ApI w s z sz) :=
  OwnFrom.and (Own.from (holdsRow_own w.heap.size w.heap.size 53 9 1 (fun pre : List (Fin (pcN s z)) => pre.length) (fun pre => pre.map (pcV s z)) (fun _ _ => True)) _) (OwnFrom.and (ownFrom_below (Nat.le_refl _) h) (fun s X Y row hs hg _ => Nat.le_trans hs hg.size))
def apA (f : Value) (g : Nat) (p : Value) : Act := { tmps := #[.slice none 0 0, f, .pointer (some ⟨g, 0, none⟩), undef, .slice none 0 0, p, f, p, undef, undef, undef, undef, undef], defers := [] }
theorem pcN_le (s : ByteArray) (z : Nat) (hz : 0 < z) : pcN s z ≤ s.size := by
  unfold pcN
  rcases Nat.eq_zero_or_pos s.size with h | h
  · rw [h, Nat.div_eq_of_lt (by omega)]; exact Nat.le_refl _
  · refine Nat.le_trans (Nat.div_le_div_right (c := z) (show s.size + (z - 1) ≤ s.size * z from ?_)) (by rw [Nat.mul_div_cancel _ hz]; exact Nat.le_refl _)
    have : (s.size - 1) * z ≥ s.size - 1 := Nat.le_mul_of_pos_right _ hz
    have e : s.size * z = (s.size - 1) * z + z := by
      have : s.size = (s.size - 1) + 1 := by omega
      rw [this, Nat.add_mul, Nat.one_mul]; simp
    omega
set_option maxRecDepth 100000 in
set_option maxHeartbeats 4000000 in
theorem appS_e (w : World) (s : ByteArray) (z : Nat) (hz : 0 < z) (hz2 : z ≤ 1000) (hs : s.size ≤ 100000) (A B : Nat) (hA : Blk w A #[.string s] 9) (hB : Blk w B #[.int .i64 (z : Int)] 3) :
    Calls Tryz.prog 251 #[.slice none 0 0, .func (.func 118) #[] #[.pointer (some ⟨A, 0, none⟩), .pointer (some ⟨B, 0, none⟩)]] w fun e w' => (∃ v, e = .returned v ∧ w'.ownsRow w.heap.size 9 1 v (pcN s z) ((List.finRange (pcN s z)).map (pcV s z))) ∧ Below w.heap.size w w' := by
  have hAl := hA.lt
  have hBl := hB.lt
  have hN := pcN_le s z hz
  obtain ⟨i0, hi, hz0, hz1, hz3⟩ := info_parts (P := Tryz.prog) (e := 9) (z := .string ⟨#[]⟩) (size := 1) (bytes := 16) (by kernel_rfl)
  refine (callsIn_wide (n := 9)).1 ?_
  refine callsIn_of_wp_marks Tryz.func251 rfl trivial ?_ rfl
  simp only [Tryz.ntmps251, List.size_toArray, List.length_cons, List.length_nil, Nat.reduceAdd, Nat.reduceSub, Array.replicate_succ, Array.replicate_zero, List.push_toArray, List.append_toArray, List.nil_append, List.cons_append]
  gi_wp2
  have bV := World.alloc_heap_new w (.cells #[.slice none 0 0] 53)
  have hB0 := below_alloc w (.cells #[.slice none 0 0] 53)
  have hs0 : (w.alloc (.cells #[.slice none 0 0] 53)).heap.size = w.heap.size + 1 := by simp
  have hA1 := hA.later hB0
  have hB1 := hB.later hB0
  generalize w.alloc (.cells #[.slice none 0 0] 53) = W0 at hB0 bV hs0 hA1 hB1 ⊢
  have h0 : ApI w s z W0.heap.size [] W0 := ⟨⟨_, bV, ⟨by simp, .inl ⟨rfl, rfl⟩⟩, trivial⟩, hB0, Nat.le_refl _⟩
  refine wpIn_rangeFunc_ownH rfl (by omega) (gf := 118) (lb := #[.pointer (some ⟨A, 0, none⟩), .pointer (some ⟨B, 0, none⟩)]) rfl trivial (enters_of Tryz.func118 (by kernel_rfl) rfl)
    (pieces_stops s z hz hz2 hs _ A B (fun X Y => Y.heap[A]? = X.heap[A]? ∧ Y.heap[B]? = X.heap[B]?) (fun X Y h => h) W0 hA1 hB1)
    (fun h h' => ⟨h'.1.trans h.1, h'.2.trans h.2⟩)
    (fun W l o o' hl ho _ _ => ⟨(grownBy_putObj' W l o').block _ (by have := (Array.getElem?_eq_some_iff.1 ho).1; omega) (fun e => by simp at e; omega), (grownBy_putObj' W l o').block _ (by have := (Array.getElem?_eq_some_iff.1 ho).1; omega) (fun e => by simp at e; omega)⟩) (Below.refl _ _) (fun _ => rfl)
    (ApI w s z W0.heap.size) (fun _ _ _ => False) (apI_own w s z _ _ (by omega)) (fun _ _ _ _ _ hs _ _ => hs) h0
    (fun x a' W => a' = apA (.func (.func 118) #[] #[.pointer (some ⟨A, 0, none⟩), .pointer (some ⟨B, 0, none⟩)]) w.heap.size (pcV s z x))
    (fun x a' s X Y row hs hg hr => hs) ?assign ?body ?done ?stop
  case assign =>
    intro lp pre x W Kk hI hKk
    have HKk := hide hKk
    have HI' := hide hI
    clear hKk hI
    simp only [encP]
    gi_wp2
    exact HKk.out _ _ (KeepsFrom.of_grownBy (grown_of_below (below_refl W)) (fun j e => by cases e)) ⟨rfl, rfl⟩ HI'.out rfl
  case body =>
    rintro lp pre x a' W hl hr ⟨⟨v, hv, hrow, _⟩, hbW, hsz⟩ rfl hlt
    have HV := hide hv
    have HR := hide hrow
    have HB := hide hbW
    have HSz := hide hsz
    have HLt : Hid (pre.length < pcN s z) := hlt
    have hc := hv.cell
    clear hv hrow hbW hsz hlt
    simp only [apA, pcV]
    obtain ⟨q, hq⟩ : ∃ q, pcS s z x.val = q := ⟨_, rfl⟩
    rw [hq]
    gi_wp2_with (first
      | (gi_at_builtin; refine wpListIn_append_own_at _ rfl _ _ 53 rfl w.heap.size 9 i0 (.string ⟨#[]⟩) 1 16 Tryz.underlying53 hi hz0 hz1 hz3 rfl (by decide) _ _ _ rfl (HR.out.alloc _) ⟨W.heap.size, 0, none⟩ 1 1 [.string q] rfl rfl (cell_one_new _ _ _) (by simp [Value.oneCell']) (by have := HLt.out; unfold maxLen; omega) (by have := HLt.out; omega) (by have := HB.out.size; simp; omega) ?_; intro v' w1 hown' hgrow _ hob; have HGw := hide hgrow; clear hob; obtain ⟨g', cap', rfl⟩ := ownsRow_succ hown'; obtain ⟨hv1, hv2, hr2, hk2, hb2⟩ := HV.out.appended (by decide) HR.out (by have := HB.out.size; omega) (Nat.le_refl _) hown' hgrow; have hc1 := hv1.cell; have hf1 := hv1.frozen))
    have hsW := HSz.out
    have hke : ∀ k, k < w.heap.size → (w1.setCell ⟨w.heap.size, 0, none⟩ (.slice (some ⟨g', 0, none⟩) (pre.length + 1) cap')).heap[k]? = W.heap[k]? := fun k hk => hb2.block k hk
    have hzz := hb2.size
    refine ⟨hk2.from _, ⟨hke _ hAl, hke _ hBl⟩, ⟨⟨_, hv2, ?_, trivial⟩, HB.out.trans hb2, by omega⟩⟩
    rw [List.map_append, List.length_append]
    simpa [pcV, hq] using hr2
  case done =>
    rintro D2 ys W hD rfl ⟨⟨v, hv, hrow, _⟩, hbW, hsz⟩ hK0
    have hc := hv.cell
    rw [List.length_finRange] at hrow
    gi_wp2
    refine ⟨by simp, .inl ⟨_, _, rfl, run_takeDeferred hK0, ?_⟩⟩
    exact ⟨_, results_tmp rfl _ _ _, ⟨v, rfl, ownsRow_putObj hrow _ hK0 rfl⟩, hbW.trans (belowK_b (w := w) (Nat.le_refl _) W D2 _ _ (by omega) hK0)⟩
  case stop =>
    rintro D2 cc pre W _ _ h _
    exact h.elim
theorem collS_e (w : World) (s : ByteArray) (z : Nat) (hz : 0 < z) (hz2 : z ≤ 1000) (hs : s.size ≤ 100000) (A B : Nat) (hA : Blk w A #[.string s] 9) (hB : Blk w B #[.int .i64 (z : Int)] 3) :
    Calls Tryz.prog 198 #[.func (.func 118) #[] #[.pointer (some ⟨A, 0, none⟩), .pointer (some ⟨B, 0, none⟩)]] w fun e w' => (∃ v, e = .returned v ∧ w'.ownsRow w.heap.size 9 1 v (pcN s z) ((List.finRange (pcN s z)).map (pcV s z))) ∧ Below w.heap.size w w' := by
  have HA := hide (appS_e w s z hz hz2 hs A B hA hB)
  clear hA hB
  go_enter Tryz.func198, Tryz.ntmps198
  go_wp2_with (first
    | (go_at_call 251; (with_reducible refine Calls.mono HA.out ?_); rintro e w4 ⟨⟨v, rfl, ho⟩, hb⟩; have HO := hide ho; have HB4 := hide hb; clear ho hb))
  go_ret
  exact ⟨⟨v, rfl, HO.out⟩, HB4.out⟩
end Go.Proofs.YthgclfhfipfknaaGreat

namespace Go.Proofs.YthgclfhfipfknaaGreat
open Go.ChangeShapes Go.WideShapes Go.ChangeAt Go.RowKit Go.Shelf
set_option linter.unusedVariables false

theorem pcS_size (s : ByteArray) (z k : Nat) (hz : 0 < z) (hk : k < pcN s z) : (pcS s z k).size = min (k * z + z) s.size - k * z ∧ 0 < (pcS s z k).size ∧ (pcS s z k).size ≤ z := by
  have h := (pcN_lt s z k hz).1 hk
  have e : (pcS s z k).size = min (k * z + z) s.size - k * z := by
    unfold pcS
    rw [ByteArray.size_extract]
    omega
  exact ⟨e, by omega, by omega⟩
theorem pcS_toL (s : ByteArray) (z k : Nat) : (pcS s z k).data.toList = (s.data.toList.drop (k * z)).take z := by
  unfold pcS
  rw [ByteArray.data_extract, Array.toList_extract, List.extract_eq_take_drop]
  have hl : s.data.toList.length = s.size := bytes_size s
  rcases Nat.le_total (k * z + z) s.size with h | h
  · rw [Nat.min_eq_left h, Nat.add_sub_cancel_left]
  · rw [Nat.min_eq_right h, List.take_of_length_le (by rw [List.length_drop, hl]; exact Nat.le_refl _), List.take_of_length_le (by rw [List.length_drop, hl]; omega)]
theorem cat_pieces (s : ByteArray) (z : Nat) : ∀ n, cat (pcS s z) n = s.data.toList.take (n * z)
  | 0 => by simp [cat]
  | n + 1 => by
    rw [cat, cat_pieces s z n, pcS_toL, Nat.add_mul, Nat.one_mul, List.take_add]
/-- The page of a chain that holds a piece. -/
def chL (p : ByteArray) (next : Nat) : List UInt8 := pageL 5 next (pcN p 60) (pcS p 60)
theorem ch_fits (p : ByteArray) (h1 : p.size ≤ 240) : pcN p 60 ≤ 4 ∧ pcN p 60 + (cat (pcS p 60) (pcN p 60)).length ≤ 250 := by
  have hN : pcN p 60 ≤ 4 := by unfold pcN; omega
  refine ⟨hN, ?_⟩
  have hl : p.data.toList.length = p.size := bytes_size p
  rw [cat_pieces, List.length_take, hl]
  omega
theorem chL_length (p : ByteArray) (next : Nat) (h1 : p.size ≤ 240) : (chL p next).length = 256 := pageL_length (ch_fits p h1).2
theorem str_of_own {w : World} {base g n cap : Nat} {s : ByteArray} {z : Nat} (h : w.ownsRow base 9 1 (.slice (some ⟨g, 0, none⟩) n cap) (pcN s z) ((List.finRange (pcN s z)).map (pcV s z))) : StrAt w g 0 (pcN s z) (pcS s z) := by
  rcases h.2 with ⟨hv, _⟩ | ⟨g', cap', cur, hv, hb, hh, hc, hm, hsz, htk⟩
  · cases hv
  · injection hv with e1 e2 e3
    injection e1 with e1
    injection e1 with e1
    subst e1
    intro i hi
    rw [Nat.zero_add, Lib.cell_of_heap hh]
    have e : cur[i]? = (cur.toList.take (pcN s z * 1))[i]? := by rw [List.getElem?_take_of_lt (by omega)]; simp
    rw [e, htk]
    simp [pcV, hi]
theorem pc_new {w w3 : World} {o : Obj} {p : ByteArray} {z : Nat} (h : w3 = ((w.alloc o).alloc (.cells #[.string p] 9)).alloc (.cells #[.int .i64 (z : Int)] 3)) : Blk w3 (w.heap.size + 1) #[.string p] 9 ∧ Blk w3 (w.heap.size + 1 + 1) #[.int .i64 (z : Int)] 3 ∧ Below (w.alloc o).heap.size (w.alloc o) w3 := by
  have e1 : (w.alloc o).heap.size = w.heap.size + 1 := by simp
  have e2 : ((w.alloc o).alloc (.cells #[.string p] 9)).heap.size = w.heap.size + 1 + 1 := by simp
  subst h
  refine ⟨?_, ?_, below_trans (below_alloc _ _) (below_alloc _ _)⟩
  · rw [← e1]; exact (Blk.new _ _ _).later (below_alloc _ _)
  · rw [← e2]; exact Blk.new _ _ _
set_option maxRecDepth 20000 in
set_option maxHeartbeats 2000000 in
theorem pageOf_e (w : World) (p : ByteArray) (next : Nat) (h0 : 0 < p.size) (h1 : p.size ≤ 240) (hn : next < 4294967296) :
    Calls Tryz.prog 120 #[.string p, .int .i64 (next : Int)] w fun e w' => e = .returned (.agg (bc (chL p next))) ∧ Below w.heap.size w w' := by
  obtain ⟨f4, ff⟩ := ch_fits p h1
  have f0 : 0 < pcN p 60 := by unfold pcN; omega
  have HS := hide (fun i hi => pcS_size p 60 i (by omega) hi)
  have hE : cErr (pcN p 60) (pcS p 60) = 0 := cErr_of (fun i hi => ⟨by have := (HS.out i hi).2.1; omega, (HS.out i hi).2.2⟩)
  have HN := hide (fun V g cap (h : StrAt V g 0 (pcN p 60) (pcS p 60)) => (new_ok 5 next (by omega) hn g 0 (pcN p 60) cap (pcS p 60) (by omega) hE V h).mono (fun e w' hh => (show e = .returned (.tuple #[.agg (bc (chL p next)), .int .i64 0]) ∧ Below V.heap.size V w' from by
    obtain ⟨⟨l, x, hl, hx, rfl⟩, hb⟩ := hh
    unfold NewIs at hx
    rw [if_neg (by omega), if_neg (by omega), if_pos ff] at hx
    obtain ⟨rfl, rfl⟩ := hx
    exact ⟨rfl, hb⟩)))
  have HPc := hide (fun V => pieces_e V p 60)
  have HCo := hide (fun (V : World) A B (hA : Blk V A #[.string p] 9) (hB : Blk V B #[.int .i64 ((60 : Nat) : Int)] 3) => collS_e V p 60 (by omega) (by omega) (by omega) A B hA hB)
  have HB0 := hide (below_alloc w (.cells (bc zs) 59))
  have HZ := hide (PAt.new w zs)
  have HL := hide (chL_length p next h1)
  have HOf := hide (fun (V : World) (base : Nat) (v : Value) (h : V.ownsRow base 9 1 v (pcN p 60) ((List.finRange (pcN p 60)).map (pcV p 60))) => (show ∃ g cap, v = .slice (some ⟨g, 0, none⟩) (pcN p 60) cap from by
    rcases h.2 with ⟨hv, h0⟩ | ⟨g', cap', cur, hv, _⟩
    · omega
    · exact ⟨g', cap', hv⟩))
  have hz := zeroP
  have hw : IntKind.u32.wrap (next : Int) = (next : Int) := by rw [IntKind.wrap_u32]; omega
  clear f4 ff f0 hE
  generalize chL p next = l at *
  go_enter Tryz.func120, Tryz.ntmps120
  go_wp2_with (first
    | (go_at_call 46; (with_reducible refine Calls.mono (HPc.out _) ?_); rintro e w3 ⟨rfl, hw3⟩; obtain ⟨x0, x1, x2⟩ := pc_new hw3; have HB3 := hide (below_trans HB0.out x2); have HA3 := hide x0; have HI3 := hide x1; have HZ3 := hide (HZ.out.later x2); clear hw3 x0 x1 x2)
    | (go_at_call 198; (with_reducible refine Calls.mono (HCo.out _ _ _ HA3.out HI3.out) ?_); rintro e w5 ⟨⟨v, rfl, ho⟩, hb⟩; obtain ⟨g, cap, rfl⟩ := HOf.out _ _ _ ho; have HSt := hide (str_of_own ho); have HB5 := hide (below_trans HB3.out hb); have HZ5 := hide (HZ3.out.later hb); clear ho hb)
    | (go_at_call 182; (with_reducible refine Calls.mono (HN.out _ _ _ HSt.out) ?_); rintro e w4 ⟨rfl, hb⟩; have HB4 := hide (below_trans HB5.out hb); have HZ4 := hide (HZ5.out.later hb); have HN4 := hide (PAt.new w4 zs); have HZ6 := hide (HZ4.out.later (below_alloc w4 (.cells (bc zs) 59))); have HB6 := hide (below_trans HB4.out (below_alloc w4 (.cells (bc zs) 59))); have HLt := hide HB4.out.size; clear hb)
    | ((with_reducible refine atSt 59 ?_); refine wp_storeP HL.out zs_length HN4.out _ _ (by rfl) (by rfl) (by rfl) (by rfl) ?_; intro W6 hp hb hk; have HP6 := hide hp; have HB7 := hide (hb _ _ HB6.out (by have := HLt.out; omega)); have HZ7 := hide ((hk w.heap.size (by have := (Array.getElem?_eq_some_iff.1 HZ4.out).1; omega)).trans HZ6.out); clear hp hb hk)
    | ((with_reducible refine atLd 59 ?_); refine wp_loadP HL.out HP6.out _ (by rfl) (by rfl) (by rfl) ?_)
    | ((with_reducible refine atSt 59 ?_); refine wp_storeP HL.out zs_length HZ7.out _ _ (by rfl) (by rfl) (by rfl) (by rfl) ?_; intro W7 hp hb hk; have HP7 := hide hp; have HB8 := hide (hb _ _ HB7.out (Nat.le_refl _)); clear hp hb hk)
    | (exact ret_page Tryz.results120 rfl HL.out HP7.out ⟨rfl, HB8.out⟩))
end Go.Proofs.YthgclfhfipfknaaGreat
