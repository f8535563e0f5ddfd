/- A page of cells. -/
import Derived.Test.YtenfjbcigkolaaaGreatGH
namespace Go.Proofs.YtenfjbcigkolaaaGreat
open Go.ChangeShapes Go.WideShapes Go.ChangeAt Go.RowKit
set_option linter.unusedVariables false

theorem cat_lenS (S : Nat → ByteArray) : ∀ n, (cat (fun i => lenS (S i)) n).length = n
  | 0 => rfl
  | n + 1 => by rw [cat_len, cat_lenS S n]; rfl
theorem cat_le60 (S : Nat → ByteArray) : ∀ n, (∀ i, i < n → (S i).size ≤ 60) → (cat S n).length ≤ n * 60
  | 0, _ => Nat.le_refl _
  | n + 1, h => by
    rw [cat_len]
    have h1 := cat_le60 S n (fun i hi => h i (by omega))
    have h2 := h n (by omega)
    omega
theorem cErr_zero {n : Nat} {S : Nat → ByteArray} (h : cErr n S = 0) : ∀ i, i < n → (S i).size ≠ 0 ∧ (S i).size ≤ 60 := by
  intro i hi
  by_cases h0 : (S i).size = 0
  · rw [cErr_empty hi h0] at h; omega
  refine ⟨h0, Nat.le_of_not_lt fun hl => ?_⟩
  by_cases he : ∃ i, i < n ∧ (S i).size = 0
  · obtain ⟨j, hj, h2⟩ := he
    rw [cErr_empty hj h2] at h; omega
  rw [cErr_long (fun j hj e => he ⟨j, hj, e⟩), lErr, if_pos ((longB_iff S n).2 ⟨i, hi, hl⟩)] at h
  omega
theorem cErr_cases (n : Nat) (S : Nat → ByteArray) : cErr n S = 0 ∨ cErr n S = 2 ∨ cErr n S = 3 := by
  unfold cErr lErr
  split
  · exact .inr (.inl rfl)
  · split
    · exact .inr (.inr rfl)
    · exact .inl rfl

/-- The page of cells that have room. -/
def pageL (k L n : Nat) (S : Nat → ByteArray) : List UInt8 := setL (lay k n (fun i => lenS (S i)) S n n n) L
theorem pageL_length {k L n : Nat} {S : Nat → ByteArray} (h : n + (cat S n).length ≤ 250) : (pageL k L n S).length = 256 := by
  rw [pageL, setL_length]
  exact lay_length _ _ _ _ _ _ _ (by rw [cat_lenS]; exact Nat.le_refl _) h

theorem joined_new (k L : Nat) (hk : k < 256) (hL : L < 4294967296) (n g cap : Nat) (S : Nat → ByteArray) (hn : n ≤ 1000000) (h60 : ∀ i, i < n → (S i).size ≤ 60) (w : World) (h : RunsAt w g 0 n (fun i => lenS (S i)) S) :
    ∃ l, l.length = 256 ∧ ∃ e : Int, ((n + (cat S n).length ≤ 250 → l = pageL k L n S ∧ e = 0) ∧ (250 < n + (cat S n).length → l = zs ∧ e = 5)) ∧ ∀ V, RunsAt V g 0 n (fun i => lenS (S i)) S → Calls Tryz.prog 178 #[.int .u8 k, .int .u32 (L : Int), .slice (some ⟨g, 0, none⟩) n cap] V fun e' w' => e' = .returned (.tuple #[.agg (bc l), .int .i64 e]) ∧ Below V.heap.size V w' := by
  have hA := cat_lenS S n
  have hB := cat_le60 S n h60
  by_cases hf : n + (cat S n).length ≤ 250
  · refine ⟨pageL k L n S, pageL_length hf, 0, ⟨fun _ => ⟨rfl, rfl⟩, fun h => by omega⟩, fun V hV => ?_⟩
    have := joined_fits k L hk hL g 0 n cap (fun i => lenS (S i)) S (by rw [hA]; exact hf) (by omega) V hV
    rw [hA] at this
    exact this
  · refine ⟨zs, zs_length, 5, ⟨fun h => by omega, fun _ => ⟨rfl, rfl⟩⟩, fun V hV => ?_⟩
    exact joined_full k L g 0 n cap (fun i => lenS (S i)) S (by rw [hA]; omega) (by omega) (by rw [hA]; omega) V hV

/-- What New answers. -/
def NewIs (k L n : Nat) (S : Nat → ByteArray) (l : List UInt8) (e : Int) : Prop :=
  if 5 < k then l = zs ∧ e = 2 else if cErr n S ≠ 0 then l = zs ∧ e = cErr n S else if n + (cat S n).length ≤ 250 then l = pageL k L n S ∧ e = 0 else l = zs ∧ e = 5

set_option maxRecDepth 20000 in
set_option maxHeartbeats 1000000 in
theorem new_kind (k L : Nat) (hk : 5 < k) (c : Value) (w : World) :
    Calls Tryz.prog 134 #[.int .u8 k, .int .u32 (L : Int), c] w fun e w' => e = .returned (.tuple #[.agg (bc zs), .int .i64 2]) ∧ Below w.heap.size w w' := by
  have HZ := hide (PAt.new w zs)
  have HB := hide (new_below w (.cells (bc zs) 32) rfl)
  have hz := zero_page.1
  have hbu := built_page
  have l1 : (5 : Int) < (k : Int) := by omega
  go_enter Tryz.func134, Tryz.ntmps134
  go_wp2_with (first
    | (refine wp_storeP zs_length zs_length HZ.out _ _ (by rfl) (by rfl) (by rfl) (by rfl) ?_; intro W1 hp hb hk; have HP1 := hide hp; have HB1 := hide (hb _ _ HB.out (by omega)); clear hp hb hk)
    | (exact ret_page2 Tryz.results134 rfl rfl zs_length HP1.out ⟨rfl, HB1.out⟩))

set_option maxRecDepth 20000 in
set_option maxHeartbeats 1000000 in
theorem new_bad (k L : Nat) (hk : ¬ 5 < k) (b o n cap : Nat) (S : Nat → ByteArray) (hn : n ≤ 1000000) (E : Int) (hE : cErr n S = E) (h0 : E ≠ 0) (w : World) (h : StrAt w b o n S) :
    Calls Tryz.prog 134 #[.int .u8 k, .int .u32 (L : Int), .slice (some ⟨b, o, none⟩) n cap] w fun e w' => e = .returned (.tuple #[.agg (bc zs), .int .i64 E]) ∧ Below w.heap.size w w' := by
  have HZ := hide (PAt.new w zs)
  have HB := hide (new_below w (.cells (bc zs) 32) rfl)
  have HC := hide (checkCells_walk b o n cap S (by omega) _ (h.later HB.out))
  rw [hE] at HC
  have hz := zero_page.1
  have hbu := built_page
  have l1 : ¬ (5 : Int) < (k : Int) := by omega
  clear h hE
  go_enter Tryz.func134, Tryz.ntmps134
  go_wp2_with (first
    | (go_at_call 176; with_reducible refine Calls.mono HC.out ?_; rintro e w1 ⟨rfl, rfl⟩)
    | (refine wp_storeP zs_length zs_length HZ.out _ _ (by rfl) (by rfl) (by rfl) (by rfl) ?_; intro W1 hp hb hk; have HP1 := hide hp; have HB1 := hide (hb _ _ HB.out (by omega)); clear hp hb hk)
    | (exact ret_page2 Tryz.results134 rfl rfl zs_length HP1.out ⟨rfl, HB1.out⟩))

theorem own_later {w w' : World} {base e size n : Nat} {v : Value} {xs : List Value} (h : w.ownsRow base e size v n xs) (hb : Below w.heap.size w w') : w'.ownsRow base e size v n xs := by
  obtain ⟨h1, h2⟩ := h
  refine ⟨h1, ?_⟩
  rcases h2 with h2 | ⟨g, cap, cur, a1, a2, a3, a4⟩
  · exact .inl h2
  · exact .inr ⟨g, cap, cur, a1, a2, by rw [hb.block g (Array.getElem?_eq_some_iff.1 a3).1]; exact a3, a4⟩

set_option maxRecDepth 20000 in
set_option maxHeartbeats 2000000 in
theorem new_ok (k L : Nat) (hk : ¬ 5 < k) (hL : L < 4294967296) (b o n cap : Nat) (S : Nat → ByteArray) (hn : n ≤ 1000000) (hE : cErr n S = 0) (w : World) (h : StrAt w b o n S) :
    Calls Tryz.prog 134 #[.int .u8 k, .int .u32 (L : Int), .slice (some ⟨b, o, none⟩) n cap] w fun e w' => (∃ l x, l.length = 256 ∧ NewIs k L n S l x ∧ e = .returned (.tuple #[.agg (bc l), .int .i64 x])) ∧ Below w.heap.size w w' := by
  have H60 := hide (fun i hi => (cErr_zero hE i hi).2)
  have HZ := hide (PAt.new w zs)
  have HB := hide (new_below w (.cells (bc zs) 32) rfl)
  have HC := hide (checkCells_walk b o n cap S (by omega) _ (h.later HB.out))
  have HR := hide (h.later HB.out)
  have HE := hide hE
  rw [hE] at HC
  have hz := zero_page.1
  have l1 : ¬ (5 : Int) < (k : Int) := by omega
  obtain ⟨i, hi, hz0, hsz, hby⟩ := run_info
  obtain ⟨W1, hmk, hown, hgr⟩ := run_make_own (P := Tryz.prog) (w.alloc (.cells (bc zs) 32)) (w.alloc (.cells (bc zs) 32)).heap.size 270 272 i _ 2 Tryz.underlying270 hi hz0 hsz .i64 .i64 n (by rw [hby]; omega) (by simp only [maxLen]; omega) (Nat.le_refl _)
  have hs1 : (w.alloc (.cells (bc zs) 32)).heap.size = w.heap.size + 1 := by simp
  have hG : Below (w.alloc (.cells (bc zs) 32)).heap.size (w.alloc (.cells (bc zs) 32)) W1 := (Below.refl _ _).grown hgr (Nat.le_refl _) (fun k e => by cases e)
  rw [hs1] at hmk hown hG
  have HO := hide hown
  have HG := hide hG
  have HHS := hide hs1
  have HLL := hide hL
  clear h hE hi hz0 hsz hby hown hgr hG hs1 hL
  go_enter Tryz.func134, Tryz.ntmps134
  go_wp2_with (first
    | (go_at_call 176; with_reducible refine Calls.mono HC.out ?_; rintro e w1 ⟨rfl, rfl⟩))
  go_loopw [26, 9] (fun iv rv wr => ∃ j : Nat, j ≤ n ∧ iv = .int .i64 (j : Int) ∧ rv = .slice (some ⟨w.heap.size + 1, 0, none⟩) j n ∧ wr.ownsRow (w.heap.size + 1) 272 2 (.slice (some ⟨w.heap.size + 1, 0, none⟩) j n) j (rcl S j) ∧ Below (w.heap.size + 1) (w.alloc (.cells (bc zs) 32)) wr) (fun iv _ _ => n - (intOf iv).toNat)
  case atStart => exact ⟨0, Nat.zero_le _, rfl, rfl, HO.out, HG.out⟩
  case round =>
    obtain ⟨j, hj, rfl, rfl, hown, hbel⟩ := hrel
    have HOj := hide hown
    have HBj := hide hbel
    have HBj' : Hid (Below (w.alloc (.cells (bc zs) 32)).heap.size (w.alloc (.cells (bc zs) 32)) wr) := by rw [HHS.out]; exact hbel
    clear hown hbel
    by_cases hlt : j < n
    · have l1 : (j : Int) < (n : Int) := by omega
      have l0 : (0 : Int) ≤ (j : Int) := by omega
      have hw1 : IntKind.i64.wrap ((j : Int) + 1) = (j : Int) + 1 := by rw [IntKind.wrap_i64]; omega
      have cj := (HR.out.later HBj'.out) j hlt
      have HS1 := hide (single_walk (S j) (H60.out j hlt))
      have HM := hide (show j + 1 ≤ n from hlt)
      go_wp2_with (first
        | (go_at_call 177; with_reducible refine Calls.mono (HS1.out _) ?_; rintro e w2 ⟨rfl, hb⟩; have HO2 := hide (own_later HOj.out (below_trans hb (new_below w2 (.cells #[.string (lenS (S j)), .string (S j)] 272) rfl))); have HB2 := hide (below_trans HBj'.out (below_trans hb (new_below w2 (.cells #[.string (lenS (S j)), .string (S j)] 272) rfl))); clear hb)
        | (refine wp_appR HO2.out (heap_alloc_new w2 _) HM.out _ _ (by rfl) (by rfl) (by rfl) (by rfl) ?_; intro w3 ho hg; have HO3 := hide ho; have HG3 := hide hg; clear ho hg))
      refine ⟨⟨j + 1, hlt, rfl, rfl, ?_, ?_⟩, ?_⟩
      · rw [rcl_succ]; exact HO3.out
      · have hb := HB2.out
        rw [HHS.out] at hb
        exact hb.grown HG3.out (by have := hb.size; rw [HHS.out] at this; exact this) (fun k e => by cases e; exact Nat.le_refl _)
      · simp only [intOf]; omega
    · have l1 : ¬ (j : Int) < (n : Int) := by omega
      obtain rfl : j = n := by omega
      obtain ⟨l, hl, x, ⟨hx1, hx2⟩, hj⟩ := joined_new k L (by omega) HLL.out j (w.heap.size + 1) j S hn H60.out wr (runs_of_own HOj.out)
      have HL := hide hl
      have HX : Hid (NewIs k L j S l x) := by
        show NewIs k L j S l x
        unfold NewIs
        rw [if_neg hk, if_neg (by rw [HE.out]; simp)]
        split
        · rename_i h; exact hx1 h
        · rename_i h; exact hx2 (by omega)
      have HJ := hide (hj wr (runs_of_own HOj.out))
      have HZj := hide (HZ.out.later HBj'.out)
      have HBn := hide (below_trans HB.out HBj'.out)
      clear hx1 hx2 hj hl
      go_wp2_with (first
        | (go_at_call 178; with_reducible refine Calls.mono HJ.out ?_; rintro e w2 ⟨rfl, hb⟩; have HZ2 := hide (HZj.out.later hb); have HB2 := hide (below_trans HBn.out hb); clear hb)
        | (refine wp_storeP HL.out zs_length HZ2.out _ _ (by rfl) (by rfl) (by rfl) (by rfl) ?_; intro W3 hp hb hk; have HP3 := hide hp; have HB3 := hide (hb _ _ HB2.out (by omega)); clear hp hb hk)
        | (exact ret_page2 Tryz.results134 rfl rfl HL.out HP3.out ⟨⟨l, x, HL.out, HX.out, rfl⟩, HB3.out⟩))
end Go.Proofs.YtenfjbcigkolaaaGreat
