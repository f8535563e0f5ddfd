/- A run of one cell; a page of cells. -/
/- A page of cells. -/
import Derived.Test.YthgclfhfipfknaaGreatGG
import Derived.Laws.OwnMore
namespace Go.Proofs.YthgclfhfipfknaaGreat
open Go.ChangeShapes Go.WideShapes Go.ChangeAt Go.RowKit
set_option linter.unusedVariables false

/-- The length of a cell, as a text. -/
def lenS (s : ByteArray) : ByteArray := ⟨#[UInt8.ofNat s.size]⟩
/-- A piece of memory as a text. -/
theorem conv_piece (W : World) (g x cap : Nat) (l : List UInt8) (h : ∀ j, j < l.length → W.cell? ⟨g, x + j, none⟩ = some (.int .u8 (byt l j : Int))) : (convert 88 9 (.slice (some ⟨g, x, none⟩) l.length cap)).run Tryz.prog W = .ok (.string ⟨l.toArray⟩) W := by
  refine run_convert_bytes_back W _ _ 5 ⟨g, x, none⟩ cap l Tryz.underlying88 Tryz.underlying5 Tryz.underlying9 ?_
  intro j hj
  have e : (⟨g, x, none⟩ : Addr).add j = ⟨g, x + j, none⟩ := by unfold Addr.add; split <;> simp_all
  rw [e, h j hj]
  simp [byt, hj]
theorem ret_run {W : World} {g j : Nat} {fn : Func} (hres : fn.results = #[.cell j 339]) {tmps : Array Value} (ht : tmps.getD j undef = .pointer (some ⟨g, 0, none⟩)) {a b : Value}
    (hg : W.heap[g]? = some (.cells #[a, b] 339 (0, 0))) {R : Ending → World → Prop} (h : R (.returned (.agg #[a, b])) W) : bodyPost Tryz.prog fn R Exit.ret { tmps := tmps, defers := [] } W :=
  bodyPost_ret (v := .agg #[a, b]) (results_cell_row hres _ _ g 339 _ (0, 0) _ ht hg Tryz.underlying339 rfl (by kernel_rfl)) rfl h

set_option maxRecDepth 20000 in
set_option maxHeartbeats 1000000 in
theorem single_walk (s : ByteArray) (hs : s.size ≤ 60) (w : World) :
    Calls Tryz.prog 244 #[.string s] w fun e w' => e = .returned (.agg #[.string (lenS s), .string s]) ∧ Below w.heap.size w w' := by
  have e1 : IntKind.u8.wrap (s.size : Int) = (s.size : Int) := by rw [IntKind.wrap_u8]; omega
  have hcv : (convert 88 9 (.slice (some ⟨w.heap.size + 1, 0, none⟩) 1 1)).run Tryz.prog ((w.alloc (.cells #[.string ⟨#[]⟩, .string ⟨#[]⟩] 339)).alloc (.cells #[.int .u8 (s.size : Int)] 5)) = .ok (.string (lenS s)) ((w.alloc (.cells #[.string ⟨#[]⟩, .string ⟨#[]⟩] 339)).alloc (.cells #[.int .u8 (s.size : Int)] 5)) := by
    refine conv_piece _ (w.heap.size + 1) 0 1 [UInt8.ofNat s.size] (fun j hj => ?_)
    have hj0 : j = 0 := by simpa using hj
    subst hj0
    have h := heap_alloc2_new w (.cells #[.string ⟨#[]⟩, .string ⟨#[]⟩] 339) (.cells #[.int .u8 (s.size : Int)] 5)
    rw [cell_of_row _ _ _ _ _ _ h]
    simp [byt]
    omega
  go_enter Tryz.func244, Tryz.ntmps244
  go_wp2
  exact ret_run Tryz.results244 rfl (heap_alloc2_old w _ _) ⟨rfl, below_trans (new_below w _ rfl) (new_below _ _ rfl)⟩

/-- The cells of runs of one cell each. -/
def rcl (S : Nat → ByteArray) (n : Nat) : List Value := (List.range (n * 2)).map fun j => if j % 2 = 0 then .string (lenS (S (j / 2))) else .string (S (j / 2))
theorem rcl_succ (S : Nat → ByteArray) (n : Nat) : rcl S (n + 1) = rcl S n ++ [.string (lenS (S n)), .string (S n)] := by
  unfold rcl
  rw [show (n + 1) * 2 = n * 2 + 1 + 1 by omega, List.range_succ, List.range_succ]
  simp only [List.map_append, List.map_cons, List.map_nil, List.append_assoc, List.cons_append, List.nil_append]
  rw [if_pos (by omega), if_neg (by omega), show n * 2 / 2 = n by omega, show (n * 2 + 1) / 2 = n by omega]
theorem rcl_at (S : Nat → ByteArray) {n i : Nat} (h : i < n) : (rcl S n)[i * 2]? = some (.string (lenS (S i))) ∧ (rcl S n)[i * 2 + 1]? = some (.string (S i)) := by
  unfold rcl
  rw [List.getElem?_map, List.getElem?_map, List.getElem?_range (by omega), List.getElem?_range (by omega)]
  simp only [Option.map_some]
  rw [if_pos (by omega), if_neg (by omega), show i * 2 / 2 = i by omega, show (i * 2 + 1) / 2 = i by omega]
  exact ⟨rfl, rfl⟩
theorem runs_of_own {w : World} {base g n cap : Nat} {S : Nat → ByteArray} (h : w.ownsRow base 339 2 (.slice (some ⟨g, 0, none⟩) n cap) n (rcl S n)) : RunsAt w g 0 n (fun i => lenS (S i)) S := by
  intro i hi
  obtain ⟨h1, h2⟩ := rcl_at S hi
  have c1 := h.cells (g := g) rfl _ _ h1
  have c2 := h.cells (g := g) rfl _ _ h2
  have e : ∀ j, (⟨g, 0, none⟩ : Addr).add j = ⟨g, j, none⟩ := fun j => by unfold Addr.add; split <;> simp_all
  rw [e] at c1 c2
  simp only [Nat.zero_add]
  exact ⟨c1, c2⟩
theorem run_info : ∃ i, Tryz.prog.info? 339 = some i ∧ i.zero = some (.agg #[.string ⟨#[]⟩, .string ⟨#[]⟩]) ∧ i.size = 2 ∧ i.bytes = 32 := by
  have h : (Tryz.prog.info? 339).map (fun i => (i.zero, i.size, i.bytes)) = some (some (.agg #[.string ⟨#[]⟩, .string ⟨#[]⟩]), 2, 32) := by kernel_rfl
  obtain ⟨i, h1, h2⟩ := Option.map_eq_some_iff.1 h
  simp only [Prod.mk.injEq] at h2
  exact ⟨i, h1, h2.1, h2.2.1, h2.2.2⟩
/-- One run more. -/
theorem wp_appR {ops : Array Oper} {rest : List Oper} {o : Oper} {a : Act} {Q : Exit → Act → World → Prop} {w : World} {base g n cap : Nat} {xs : List Value} (hown : w.ownsRow base 339 2 (.slice (some ⟨g, 0, none⟩) n cap) n xs) {h : Nat} {A B : ByteArray}
    (hc : w.heap[h]? = some (.cells #[.string A, .string B] 339 (0, 0))) (hroom : n + 1 ≤ cap) (s z : Operand)
    (hgd : o.guard = none) (ho : o.op = .call { callee := .builtin .append, args := #[s, z], argTypes := #[337, 337] }) (hs : a.eval s = .slice (some ⟨g, 0, none⟩) n cap) (hz : a.eval z = .slice (some ⟨h, 0, none⟩) 1 1)
    (hk : ∀ w', w'.ownsRow base 339 2 (.slice (some ⟨g, 0, none⟩) (n + 1) cap) (n + 1) (xs ++ [.string A, .string B]) → w.grownBy w' (some g) → wpList Tryz.prog ops Q rest (a.put o.dst (.slice (some ⟨g, 0, none⟩) (n + 1) cap)) w') : wpList Tryz.prog ops Q (o :: rest) a w := by
  obtain ⟨i, hi, hz0, hsz, hby⟩ := run_info
  obtain ⟨w', hr, h2, h3⟩ := run_append_fits (P := Tryz.prog) w base 337 o.type 339 i 2 Tryz.underlying337 hi hsz g n cap xs hown ⟨h, 0, none⟩ 1 1 [.string A, .string B] rfl (by
    intro j u hu
    have e : (⟨h, 0, none⟩ : Addr).add j = ⟨h, j, none⟩ := by unfold Addr.add; split <;> simp_all
    rw [e, cell_of_row _ _ _ _ _ _ hc]
    simpa using hu) (by
    intro u hu
    simp at hu
    rcases hu with rfl | rfl <;> rfl) hroom
  refine wpList_plain hgd fun K hK => ?_
  unfold Oper.wp execOp
  simp only [ho, resolve, invoke, builtin, Sem.run_bind, Sem.run_pure, Result.andThen_ok, List.map_toArray, List.map_cons, List.map_nil, hs, hz, hr]
  exact hK _ _ (hk w' h2 h3)
end Go.Proofs.YthgclfhfipfknaaGreat

namespace Go.Proofs.YthgclfhfipfknaaGreat
open Go.ChangeShapes Go.WideShapes Go.ChangeAt Go.RowKit
set_option linter.unusedVariables false

theorem cat_lenS (S : Nat → ByteArray) : ∀ n, (cat (fun i => lenS (S i)) n).length = n
  | 0 => rfl
  | n + 1 => by rw [cat_len, cat_lenS S n]; rfl
theorem cat_le60 (S : Nat → ByteArray) : ∀ n, (∀ i, i < n → (S i).size ≤ 60) → (cat S n).length ≤ n * 60
  | 0, _ => Nat.le_refl _
  | n + 1, h => by
    rw [cat_len]
    have h1 := cat_le60 S n (fun i hi => h i (by omega))
    have h2 := h n (by omega)
    omega
theorem cErr_zero {n : Nat} {S : Nat → ByteArray} (h : cErr n S = 0) : ∀ i, i < n → (S i).size ≠ 0 ∧ (S i).size ≤ 60 := by
  intro i hi
  by_cases h0 : (S i).size = 0
  · rw [cErr_empty hi h0] at h; omega
  refine ⟨h0, Nat.le_of_not_lt fun hl => ?_⟩
  by_cases he : ∃ i, i < n ∧ (S i).size = 0
  · obtain ⟨j, hj, h2⟩ := he
    rw [cErr_empty hj h2] at h; omega
  rw [cErr_long (fun j hj e => he ⟨j, hj, e⟩), lErr, if_pos ((longB_iff S n).2 ⟨i, hi, hl⟩)] at h
  omega
theorem cErr_cases (n : Nat) (S : Nat → ByteArray) : cErr n S = 0 ∨ cErr n S = 2 ∨ cErr n S = 3 := by
  unfold cErr lErr
  split
  · exact .inr (.inl rfl)
  · split
    · exact .inr (.inr rfl)
    · exact .inl rfl

/-- The page of cells that have room. -/
def pageL (k L n : Nat) (S : Nat → ByteArray) : List UInt8 := setL (lay k n (fun i => lenS (S i)) S n n n) L
theorem pageL_length {k L n : Nat} {S : Nat → ByteArray} (h : n + (cat S n).length ≤ 250) : (pageL k L n S).length = 256 := by
  rw [pageL, setL_length]
  exact lay_length _ _ _ _ _ _ _ (by rw [cat_lenS]; exact Nat.le_refl _) h

theorem joined_new (k L : Nat) (hk : k < 256) (hL : L < 4294967296) (n g cap : Nat) (S : Nat → ByteArray) (hn : n ≤ 1000000) (h60 : ∀ i, i < n → (S i).size ≤ 60) (w : World) (h : RunsAt w g 0 n (fun i => lenS (S i)) S) :
    ∃ l, l.length = 256 ∧ ∃ e : Int, ((n + (cat S n).length ≤ 250 → l = pageL k L n S ∧ e = 0) ∧ (250 < n + (cat S n).length → l = zs ∧ e = 5)) ∧ ∀ V, RunsAt V g 0 n (fun i => lenS (S i)) S → Calls Tryz.prog 245 #[.int .u8 k, .int .u32 (L : Int), .slice (some ⟨g, 0, none⟩) n cap] V fun e' w' => e' = .returned (.tuple #[.agg (bc l), .int .i64 e]) ∧ Below V.heap.size V w' := by
  have hA := cat_lenS S n
  have hB := cat_le60 S n h60
  by_cases hf : n + (cat S n).length ≤ 250
  · refine ⟨pageL k L n S, pageL_length hf, 0, ⟨fun _ => ⟨rfl, rfl⟩, fun h => by omega⟩, fun V hV => ?_⟩
    have := joined_fits k L hk hL g 0 n cap (fun i => lenS (S i)) S (by rw [hA]; exact hf) (by omega) V hV
    rw [hA] at this
    exact this
  · refine ⟨zs, zs_length, 5, ⟨fun h => by omega, fun _ => ⟨rfl, rfl⟩⟩, fun V hV => ?_⟩
    exact joined_full k L g 0 n cap (fun i => lenS (S i)) S (by rw [hA]; omega) (by omega) (by rw [hA]; omega) V hV

/-- What New answers. -/
def NewIs (k L n : Nat) (S : Nat → ByteArray) (l : List UInt8) (e : Int) : Prop :=
  if 5 < k then l = zs ∧ e = 2 else if cErr n S ≠ 0 then l = zs ∧ e = cErr n S else if n + (cat S n).length ≤ 250 then l = pageL k L n S ∧ e = 0 else l = zs ∧ e = 5

set_option maxRecDepth 20000 in
set_option maxHeartbeats 1000000 in
theorem new_kind (k L : Nat) (hk : 5 < k) (c : Value) (w : World) :
    Calls Tryz.prog 182 #[.int .u8 k, .int .u32 (L : Int), c] w fun e w' => e = .returned (.tuple #[.agg (bc zs), .int .i64 2]) ∧ Below w.heap.size w w' := by
  have HZ := hide (PAt.new w zs)
  have HB := hide (new_below w (.cells (bc zs) 59) rfl)
  have hz := zero_page.1
  have hbu := built_page
  have l1 : (5 : Int) < (k : Int) := by omega
  go_enter Tryz.func182, Tryz.ntmps182
  go_wp2_with (first
    | (refine wp_storeP zs_length zs_length HZ.out _ _ (by rfl) (by rfl) (by rfl) (by rfl) ?_; intro W1 hp hb hk; have HP1 := hide hp; have HB1 := hide (hb _ _ HB.out (by omega)); clear hp hb hk)
    | (exact ret_page2 Tryz.results182 rfl rfl zs_length HP1.out ⟨rfl, HB1.out⟩))

set_option maxRecDepth 20000 in
set_option maxHeartbeats 1000000 in
theorem new_bad (k L : Nat) (hk : ¬ 5 < k) (b o n cap : Nat) (S : Nat → ByteArray) (hn : n ≤ 1000000) (E : Int) (hE : cErr n S = E) (h0 : E ≠ 0) (w : World) (h : StrAt w b o n S) :
    Calls Tryz.prog 182 #[.int .u8 k, .int .u32 (L : Int), .slice (some ⟨b, o, none⟩) n cap] w fun e w' => e = .returned (.tuple #[.agg (bc zs), .int .i64 E]) ∧ Below w.heap.size w w' := by
  have HZ := hide (PAt.new w zs)
  have HB := hide (new_below w (.cells (bc zs) 59) rfl)
  have HC := hide (checkCells_walk b o n cap S (by omega) _ (h.later HB.out))
  rw [hE] at HC
  have hz := zero_page.1
  have hbu := built_page
  have l1 : ¬ (5 : Int) < (k : Int) := by omega
  clear h hE
  go_enter Tryz.func182, Tryz.ntmps182
  go_wp2_with (first
    | (go_at_call 243; with_reducible refine Calls.mono HC.out ?_; rintro e w1 ⟨rfl, rfl⟩)
    | (refine wp_storeP zs_length zs_length HZ.out _ _ (by rfl) (by rfl) (by rfl) (by rfl) ?_; intro W1 hp hb hk; have HP1 := hide hp; have HB1 := hide (hb _ _ HB.out (by omega)); clear hp hb hk)
    | (exact ret_page2 Tryz.results182 rfl rfl zs_length HP1.out ⟨rfl, HB1.out⟩))

theorem own_later {w w' : World} {base e size n : Nat} {v : Value} {xs : List Value} (h : w.ownsRow base e size v n xs) (hb : Below w.heap.size w w') : w'.ownsRow base e size v n xs := by
  obtain ⟨h1, h2⟩ := h
  refine ⟨h1, ?_⟩
  rcases h2 with h2 | ⟨g, cap, cur, a1, a2, a3, a4⟩
  · exact .inl h2
  · exact .inr ⟨g, cap, cur, a1, a2, by rw [hb.block g (Array.getElem?_eq_some_iff.1 a3).1]; exact a3, a4⟩

set_option maxRecDepth 20000 in
set_option maxHeartbeats 2000000 in
theorem new_ok (k L : Nat) (hk : ¬ 5 < k) (hL : L < 4294967296) (b o n cap : Nat) (S : Nat → ByteArray) (hn : n ≤ 1000000) (hE : cErr n S = 0) (w : World) (h : StrAt w b o n S) :
    Calls Tryz.prog 182 #[.int .u8 k, .int .u32 (L : Int), .slice (some ⟨b, o, none⟩) n cap] w fun e w' => (∃ l x, l.length = 256 ∧ NewIs k L n S l x ∧ e = .returned (.tuple #[.agg (bc l), .int .i64 x])) ∧ Below w.heap.size w w' := by
  have H60 := hide (fun i hi => (cErr_zero hE i hi).2)
  have HZ := hide (PAt.new w zs)
  have HB := hide (new_below w (.cells (bc zs) 59) rfl)
  have HC := hide (checkCells_walk b o n cap S (by omega) _ (h.later HB.out))
  have HR := hide (h.later HB.out)
  have HE := hide hE
  rw [hE] at HC
  have hz := zero_page.1
  have l1 : ¬ (5 : Int) < (k : Int) := by omega
  obtain ⟨i, hi, hz0, hsz, hby⟩ := run_info
  obtain ⟨W1, hmk, hown, hgr⟩ := run_make_own (P := Tryz.prog) (w.alloc (.cells (bc zs) 59)) (w.alloc (.cells (bc zs) 59)).heap.size 337 339 i _ 2 Tryz.underlying337 hi hz0 hsz .i64 .i64 n (by rw [hby]; omega) (by simp only [maxLen]; omega) (Nat.le_refl _)
  have hs1 : (w.alloc (.cells (bc zs) 59)).heap.size = w.heap.size + 1 := by simp
  have hG : Below (w.alloc (.cells (bc zs) 59)).heap.size (w.alloc (.cells (bc zs) 59)) W1 := (Below.refl _ _).grown hgr (Nat.le_refl _) (fun k e => by cases e)
  rw [hs1] at hmk hown hG
  have HO := hide hown
  have HG := hide hG
  have HHS := hide hs1
  have HLL := hide hL
  clear h hE hi hz0 hsz hby hown hgr hG hs1 hL
  go_enter Tryz.func182, Tryz.ntmps182
  go_wp2_with (first
    | (go_at_call 243; with_reducible refine Calls.mono HC.out ?_; rintro e w1 ⟨rfl, rfl⟩))
  go_loopw [26, 9] (fun iv rv wr => ∃ j : Nat, j ≤ n ∧ iv = .int .i64 (j : Int) ∧ rv = .slice (some ⟨w.heap.size + 1, 0, none⟩) j n ∧ wr.ownsRow (w.heap.size + 1) 339 2 (.slice (some ⟨w.heap.size + 1, 0, none⟩) j n) j (rcl S j) ∧ Below (w.heap.size + 1) (w.alloc (.cells (bc zs) 59)) wr) (fun iv _ _ => n - (intOf iv).toNat)
  case atStart => exact ⟨0, Nat.zero_le _, rfl, rfl, HO.out, HG.out⟩
  case round =>
    obtain ⟨j, hj, rfl, rfl, hown, hbel⟩ := hrel
    have HOj := hide hown
    have HBj := hide hbel
    have HBj' : Hid (Below (w.alloc (.cells (bc zs) 59)).heap.size (w.alloc (.cells (bc zs) 59)) wr) := by rw [HHS.out]; exact hbel
    clear hown hbel
    by_cases hlt : j < n
    · have l1 : (j : Int) < (n : Int) := by omega
      have l0 : (0 : Int) ≤ (j : Int) := by omega
      have hw1 : IntKind.i64.wrap ((j : Int) + 1) = (j : Int) + 1 := by rw [IntKind.wrap_i64]; omega
      have cj := (HR.out.later HBj'.out) j hlt
      have HS1 := hide (single_walk (S j) (H60.out j hlt))
      have HM := hide (show j + 1 ≤ n from hlt)
      go_wp2_with (first
        | (go_at_call 244; with_reducible refine Calls.mono (HS1.out _) ?_; rintro e w2 ⟨rfl, hb⟩; have HO2 := hide (own_later HOj.out (below_trans hb (new_below w2 (.cells #[.string (lenS (S j)), .string (S j)] 339) rfl))); have HB2 := hide (below_trans HBj'.out (below_trans hb (new_below w2 (.cells #[.string (lenS (S j)), .string (S j)] 339) rfl))); clear hb)
        | (refine wp_appR HO2.out (heap_alloc_new w2 _) HM.out _ _ (by rfl) (by rfl) (by rfl) (by rfl) ?_; intro w3 ho hg; have HO3 := hide ho; have HG3 := hide hg; clear ho hg))
      refine ⟨⟨j + 1, hlt, rfl, rfl, ?_, ?_⟩, ?_⟩
      · rw [rcl_succ]; exact HO3.out
      · have hb := HB2.out
        rw [HHS.out] at hb
        exact hb.grown HG3.out (by have := hb.size; rw [HHS.out] at this; exact this) (fun k e => by cases e; exact Nat.le_refl _)
      · simp only [intOf]; omega
    · have l1 : ¬ (j : Int) < (n : Int) := by omega
      obtain rfl : j = n := by omega
      obtain ⟨l, hl, x, ⟨hx1, hx2⟩, hj⟩ := joined_new k L (by omega) HLL.out j (w.heap.size + 1) j S hn H60.out wr (runs_of_own HOj.out)
      have HL := hide hl
      have HX : Hid (NewIs k L j S l x) := by
        show NewIs k L j S l x
        unfold NewIs
        rw [if_neg hk, if_neg (by rw [HE.out]; simp)]
        split
        · rename_i h; exact hx1 h
        · rename_i h; exact hx2 (by omega)
      have HJ := hide (hj wr (runs_of_own HOj.out))
      have HZj := hide (HZ.out.later HBj'.out)
      have HBn := hide (below_trans HB.out HBj'.out)
      clear hx1 hx2 hj hl
      go_wp2_with (first
        | (go_at_call 245; with_reducible refine Calls.mono HJ.out ?_; rintro e w2 ⟨rfl, hb⟩; have HZ2 := hide (HZj.out.later hb); have HB2 := hide (below_trans HBn.out hb); clear hb)
        | (refine wp_storeP HL.out zs_length HZ2.out _ _ (by rfl) (by rfl) (by rfl) (by rfl) ?_; intro W3 hp hb hk; have HP3 := hide hp; have HB3 := hide (hb _ _ HB2.out (by omega)); clear hp hb hk)
        | (exact ret_page2 Tryz.results182 rfl rfl HL.out HP3.out ⟨⟨l, x, HL.out, HX.out, rfl⟩, HB3.out⟩))
end Go.Proofs.YthgclfhfipfknaaGreat
