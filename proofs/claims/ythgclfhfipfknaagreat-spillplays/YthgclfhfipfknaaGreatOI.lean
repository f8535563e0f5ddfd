/- Package spill: what is found of a stub without a chain. -/
/- New of no cells; PageForm's facts. -/
import Derived.Test.YthgclfhfipfknaaGreatPMB
import Derived.Test.YthgclfhfipfknaaGreatOF
namespace Go.Proofs.YthgclfhfipfknaaGreat
variable {sv : Value}
open Go.ChangeShapes Go.WideShapes Go.ChangeAt Go.RowKit Go.Maps
set_option linter.unusedVariables false

theorem bd_new (w : World) : Lib.IsBuilder 203 5 w.heap.size w.heap.size [] (w.alloc (.cells #[.pointer none, .slice none 0 0] 203)) := .inl ⟨Nat.le_refl _, _, Blk.new w _ _, ⟨by simp, .inl ⟨rfl, rfl⟩⟩, by simp [Value.ownBlock]⟩
theorem cells3_later {w w' : World} (b : Below w.heap.size w w') {x y z : Addr} {v1 v2 v3 : Value} (h : w.cell? x = some v1 ∧ w.cell? y = some v2 ∧ w.cell? z = some v3) : w'.cell? x = some v1 ∧ w'.cell? y = some v2 ∧ w'.cell? z = some v3 := ⟨cell_later b h.1, cell_later b h.2.1, cell_later b h.2.2⟩
theorem cells3_set {w : World} {b g : Nat} (hn : b ≠ g) (v : Value) {v1 v2 v3 : Value} (h : w.cell? ⟨b, 0, none⟩ = some v1 ∧ w.cell? ⟨b, 1, none⟩ = some v2 ∧ w.cell? ⟨b, 2, none⟩ = some v3) : (w.setCell ⟨g, 0, none⟩ v).cell? ⟨b, 0, none⟩ = some v1 ∧ (w.setCell ⟨g, 0, none⟩ v).cell? ⟨b, 1, none⟩ = some v2 ∧ (w.setCell ⟨g, 0, none⟩ v).cell? ⟨b, 2, none⟩ = some v3 := by
  have e : (w.setCell ⟨g, 0, none⟩ v).heap[b]? = w.heap[b]? := Below.heap_setCell _ _ _ _ hn
  exact ⟨(World.cell?_of_block (a := ⟨b, 0, none⟩) e).trans h.1, (World.cell?_of_block (a := ⟨b, 1, none⟩) e).trans h.2.1, (World.cell?_of_block (a := ⟨b, 2, none⟩) e).trans h.2.2⟩
theorem bd_later {w w' : World} {T e B b : Nat} {p : Value} {bs : List Value} (h : Lib.BuilderAt T e B b p bs w) (hb : Below w.heap.size w w') : Lib.BuilderAt T e B b p bs w' := by
  obtain ⟨h1, v, h2, h3, h4⟩ := h
  exact ⟨h1, v, Blk.later h2 hb, h3.kept (row := none) ⟨hb.os, hb.tape, hb.output, hb.size, fun k hk _ => hb.block k hk⟩ (by cases hv : v.ownBlock <;> simp), h4⟩
theorem fs_a {w8 w9 : World} (hb : Below w8.drew.heap.size w8.drew w9) : Below w8.heap.size w8 (w9.alloc (.cells #[.int .i64 0] 3)) ∧ (w9.alloc (.cells #[.int .i64 0] 3)).cell? ⟨w9.heap.size, 0, none⟩ = some (.int .i64 0) :=
  ⟨below_trans (show Below w8.heap.size w8 w9 from ⟨hb.os, hb.tape, hb.output, hb.size, hb.block⟩) (below_alloc _ _), (Blk.new w9 _ _).cell 0⟩
theorem fs_b {w8 w9 : World} (hb : Below (w8.drew.alloc (.cells #[.int .i64 0] 3)).heap.size (w8.drew.alloc (.cells #[.int .i64 0] 3)) w9) : Below w8.heap.size w8 (w9.setCell ⟨w8.heap.size, 0, none⟩ (.int .i64 0)) ∧ (w9.setCell ⟨w8.heap.size, 0, none⟩ (.int .i64 0)).cell? ⟨w8.heap.size, 0, none⟩ = some (.int .i64 0) := by
  have h := below_trans (below_alloc w8.drew (.cells #[.int .i64 0] 3)) hb
  exact ⟨Below.setCell (show Below w8.heap.size w8 w9 from ⟨h.os, h.tape, h.output, h.size, h.block⟩) (p := ⟨w8.heap.size, 0, none⟩) (Nat.le_refl _) _, (Blk.set (Blk.later (Blk.new w8.drew #[Value.int .i64 0] 3) hb) 0 _).cell 0⟩
theorem below_up {w a b : World} {B : Nat} (h : Below w.heap.size w a) (hb : Below B a b) (hB : w.heap.size ≤ B) : Below w.heap.size w b := h.trans (hb.mono hB)
theorem fs_below {w w8 X : World} (h : Below w.heap.size w w8) (hb : Below w8.heap.size w8 X) : Below w.heap.size w X := below_trans h hb
set_option maxRecDepth 20000 in
set_option maxHeartbeats 2000000 in
theorem find_short (w : World) (t pm m : Nat) {P : Nat → List UInt8} {K : Nat} {wr : Bool} (h : Tr sv w t pm m P K wr) (s : ByteArray) (n : Nat) (hn : n ≤ 40) (hu : Rec.vrdU s.data.toList = n) (hN : Rec.vrdN s.data.toList = 1) (hsz : n + 1 ≤ s.size) (hs : s.size ≤ 140737488355328) (k : ByteArray) (hk : s.extract 1 (n + 1) = k) (hks : k.size = n) :
    Calls Tryz.prog 37 #[.pointer (some ⟨t, 0, none⟩), .string s] w fun e w' => e = .returned (.tuple #[.agg (kpA k (n + 1 : Nat) none 0 0), .int .i64 0]) ∧ Below w.heap.size w w' := by
  have HM := hide (fun X (hb : Below w.heap.size w X) => pmayRead_e X _ zs zs_length 4 (h.later hb).mayR)
  have HR := hide (fun X => read_short X s n hn hu hN hsz hs)
  rw [hk] at HR
  have HI0 := hide (sizeK k (n + 1 : Nat) none 0 0)
  have HJ0 := hide (sizeS n k 0)
  have HK0 := hide (kp_new w)
  have HB0 := hide (below_alloc w (.cells #[.string ⟨#[]⟩, .int .i64 0, .slice none 0 0] 79))
  have HBh := hide (fun X => behind_e X n k 0 (by omega) (by omega))
  rw [show (n : Int) - k.size = 0 by omega] at HBh
  unfold stA at HBh
  have HWr := hide (fun (V : World) => bd_write V.heap.size V.heap.size [] k (V.alloc (.cells #[.pointer none, .slice none 0 0] 203)) (bd_new V) (by simp; omega) (by simp))
  have HSt := hide (fun B X (hb : Lib.BuilderAt 203 5 B B (.pointer (some ⟨B, 0, none⟩)) ([] ++ Lib.strCells k) X) => Tryz.Builder_String_any B B k.data.toList X (.inr hb) (Nat.le_of_lt hb.lt))
  clear h hu hN hsz hn hk hks hs
  go_enter Tryz.func37, Tryz.ntmps37
  go_wp2
  go_step3
  go_wp2_with (first
    | (go_at_call 98; (with_reducible refine Calls.mono (HM.out _ HB0.out) ?_); rintro e w4 ⟨rfl, hb⟩; rw [show unN 4 = 0 by rfl]; have HB4 := hide (below_trans HB0.out hb); have HK4 := hide (Blk.later HK0.out hb); clear hb)
    | (go_at_call 99; (with_reducible refine Calls.mono (HR.out _) ?_); rintro e w5 ⟨rfl, hb⟩; have HB5 := hide (below_trans (below_trans HB4.out hb) (below_alloc w5 (.cells #[.int .i64 0, .string ⟨#[]⟩, .int .i64 0] 90))); have HK5 := hide (Blk.later (Blk.later HK4.out hb) (below_alloc w5 (.cells #[.int .i64 0, .string ⟨#[]⟩, .int .i64 0] 90))); have HS5 := hide (st_new w5); have HZ5 := hide (show w.heap.size < w5.heap.size from Nat.lt_of_lt_of_le (Blk.later HK4.out hb).lt (Nat.le_refl _)); clear hb)
    | ((with_reducible refine atSt 90 ?_); refine wp_storeB (c := stA n k 0) (z := stA 0 ⟨#[]⟩ 0) HJ0.out rfl (st_one _ _ _) HS5.out _ _ (by rfl) (by rfl) (by rfl) (by rfl) ?_; intro W6 hb6 ho6; have hb7 := Blk.later hb6 (below_alloc W6 (.cells #[.pointer none, .slice none 0 0] 203)); obtain ⟨s0, s1, s2⟩ := st_cells hb7; have HS7 := hide hb7; have HK7 := hide (Blk.later (Blk.only HK5.out ho6 (by have := HZ5.out; simp; omega)) (below_alloc W6 (.cells #[.pointer none, .slice none 0 0] 203))); have HB7 := hide (below_trans (below_only1 HB5.out ho6 (Nat.le_of_lt HZ5.out)) (below_alloc W6 (.cells #[.pointer none, .slice none 0 0] 203))); have HZ7 := hide hb6.lt; have HZ6 := hide (show w.heap.size < W6.heap.size from Nat.lt_trans HZ5.out hb6.lt); clear hb6 ho6 hb7)
    | (go_at_call 100; (with_reducible refine Calls.mono (HWr.out _) ?_); rintro e w8 ⟨rfl, hd, hb⟩; have hb8 := (hb.block _ HZ7.out).trans HS7.out; obtain ⟨s0', s1', s2'⟩ := st_cells hb8; have HS8 := hide hb8; have HD8 := hide hd; have HB8 := hide (below_up HB7.out hb (Nat.le_of_lt HZ6.out)); have HK8 := hide ((hb.block _ HZ6.out).trans HK7.out); clear hd hb8 s0 s1 s2))
  have HC8 := hide (show w8.drew.cell? ⟨w5.heap.size, 0, none⟩ = some (.int .i64 n) ∧ w8.drew.cell? ⟨w5.heap.size, 1, none⟩ = some (.string k) ∧ w8.drew.cell? ⟨w5.heap.size, 2, none⟩ = some (.int .i64 0) from ⟨s0', s1', s2'⟩)
  have HA8 := hide (cells3_later (below_alloc w8.drew (.cells #[.int .i64 0] 3)) HC8.out)
  have HN8 := hide (show w5.heap.size ≠ w8.heap.size from Nat.ne_of_lt (Blk.lt HS8.out))
  go_region_held3 (fun V => V.cell? ⟨w5.heap.size, 0, none⟩ = some (.int .i64 n) ∧ V.cell? ⟨w5.heap.size, 1, none⟩ = some (.string k) ∧ V.cell? ⟨w5.heap.size, 2, none⟩ = some (.int .i64 0)) (first | exact HC8.out | exact HA8.out | exact HC9.out | exact HA9.out) (first
    | (go_at_call 101; (with_reducible refine Calls.mono (HBh.out _) ?_); rintro e w9 ⟨rfl, hb⟩; have HC9 := hide (cells3_later hb HC8.out); have HA9 := hide (cells3_later (below_alloc w9 (.cells #[.int .i64 0] 3)) HC9.out); have HX := hide (fs_a hb); clear hb)
    | (go_at_call 101; (with_reducible refine Calls.mono (HBh.out _) ?_); rintro e w9 ⟨rfl, hb⟩; have HC9 := hide (cells3_later hb HA8.out); have hL := Blk.later (Blk.new w8.drew #[Value.int .i64 0] 3) hb; have c13 : w9.cell? ⟨w8.heap.size, 0, none⟩ = some (.int .i64 0) := hL.cell 0; have f13 : w9.frozen? ⟨w8.heap.size, 0, none⟩ = false := hL.frozen 0; have HA9 := hide (cells3_set HN8.out (.int .i64 0) HC9.out); have HX := hide (fs_b hb); clear hb hL))
  all_goals
    go_wp2
    go_name_world W hW
    have hX := HX.out
    rw [hW] at hX
    clear hW HX HC9 HA9
    have HD9 := hide (bd_later HD8.out hX.1)
    have HB9 := hide (fs_below HB8.out hX.1)
    have HK9 := hide (Blk.later HK8.out hX.1)
    have cl := hX.2
    have HZ9 := hide hX.1.size
    clear hX
    go_step3
    go_wp2
    go_loopw [11, 12] (fun p q wr => p = .slice none 0 0 ∧ q = .int .i64 0 ∧ wr = W) (fun _ _ _ => 0)
    case atStart => exact ⟨rfl, rfl, rfl⟩
    case round =>
      obtain ⟨rfl, rfl, rfl⟩ := hrel
      go_wp2_with (first
        | (go_at_call 108; (with_reducible refine Calls.mono (HSt.out _ _ HD9.out) ?_); rintro e w11 ⟨rfl, hb⟩; have HB11 := hide (below_up HB9.out hb (Nat.le_of_lt HZ6.out)); have HK11 := hide ((hb.block _ HZ6.out).trans HK9.out); clear hb)
        | ((with_reducible refine atSt 79 ?_); refine wp_storeB (c := kpA k (n + 1 : Nat) none 0 0) (z := kpA ⟨#[]⟩ 0 none 0 0) HI0.out rfl (kp_one _ _ _ _ _) HK11.out _ _ (by rfl) (by rfl) (by rfl) (by rfl) ?_; intro W12 hb12 ho12; have HK12 := hide hb12; have HB12 := hide (below_only1 HB11.out ho12 (Nat.le_refl _)); clear hb12 ho12))
      rw [Exit.noGoto_ret]
      refine ret_blk2 (c := kpA k (n + 1 : Nat) none 0 0) HI0.out uK Tryz.results37 (by rfl) (by rfl) HK12.out ?_
      exact ⟨rfl, HB12.out⟩
end Go.Proofs.YthgclfhfipfknaaGreat

namespace Go.Proofs.YthgclfhfipfknaaGreat
open Go.ChangeShapes Go.WideShapes Go.ChangeAt Go.RowKit
set_option linter.unusedVariables false

set_option maxRecDepth 20000 in
set_option maxHeartbeats 1000000 in
theorem checkCells_none (p : Option Addr) (cap : Nat) (w : World) :
    Calls Tryz.prog 243 #[.slice p 0 cap] w fun e w' => e = .returned (.int .i64 0) ∧ w = w' := by
  go_enter Tryz.func243, Tryz.ntmps243
  go_wp2
  refine wp_loop_rounds 1 ?_
  rw [rounds_succ]
  go_wp2
  go_ret
  exact ⟨rfl, rfl⟩

set_option maxRecDepth 20000 in
set_option maxHeartbeats 2000000 in
theorem new_nil (k L : Nat) (hk : ¬ 5 < k) (hL : L < 4294967296) (p : Option Addr) (cap : Nat) (S : Nat → ByteArray) (w : World) :
    Calls Tryz.prog 182 #[.int .u8 k, .int .u32 (L : Int), .slice p 0 cap] w fun e w' => (∃ l x, l.length = 256 ∧ NewIs k L 0 S l x ∧ e = .returned (.tuple #[.agg (bc l), .int .i64 x])) ∧ Below w.heap.size w w' := by
  obtain ⟨n, hn0⟩ : ∃ n, n = 0 := ⟨0, rfl⟩
  have hE : cErr n S = 0 := cErr_of (fun i hi => by omega)
  have hn : n ≤ 1000000 := by omega
  have H60 := hide (fun i hi => (cErr_zero hE i hi).2)
  have HZ := hide (PAt.new w zs)
  have HB := hide (new_below w (.cells (bc zs) 59) rfl)
  have HC := hide (checkCells_none p cap (w.alloc (.cells (bc zs) 59)))
  have HE := hide hE
  have hz := zero_page.1
  have l1 : ¬ (5 : Int) < (k : Int) := by omega
  obtain ⟨i, hi, hz0, hsz, hby⟩ := run_info
  obtain ⟨W1, hmk, hown, hgr⟩ := run_make_own (P := Tryz.prog) (w.alloc (.cells (bc zs) 59)) (w.alloc (.cells (bc zs) 59)).heap.size 337 339 i _ 2 Tryz.underlying337 hi hz0 hsz .i64 .i64 n (by rw [hby]; omega) (by simp only [maxLen]; omega) (Nat.le_refl _)
  have hs1 : (w.alloc (.cells (bc zs) 59)).heap.size = w.heap.size + 1 := by simp
  have hG : Below (w.alloc (.cells (bc zs) 59)).heap.size (w.alloc (.cells (bc zs) 59)) W1 := (Below.refl _ _).grown hgr (Nat.le_refl _) (fun k e => by cases e)
  rw [hs1] at hmk hown hG
  have HO := hide hown
  have HG := hide hG
  have HHS := hide hs1
  have HLL := hide hL
  subst hn0
  simp only [Int.natCast_zero] at hmk
  clear hE hi hz0 hsz hby hown hgr hG hs1 hL
  go_enter Tryz.func182, Tryz.ntmps182
  go_wp2_with (first
    | (go_at_call 243; with_reducible refine Calls.mono HC.out ?_; rintro e w1 ⟨rfl, rfl⟩))
  go_loopw [26, 9] (fun iv rv wr => ∃ j : Nat, j ≤ 0 ∧ iv = .int .i64 (j : Int) ∧ rv = .slice (some ⟨w.heap.size + 1, 0,  none⟩) j 0 ∧ wr.ownsRow (w.heap.size + 1) 339 2 (.slice (some ⟨w.heap.size + 1, 0,  none⟩) j 0) j (rcl S j) ∧ Below (w.heap.size + 1) (w.alloc (.cells (bc zs) 59)) wr) (fun iv _ _ => 0 - (intOf iv).toNat)
  case atStart => exact ⟨0, Nat.zero_le _, rfl, rfl, HO.out, HG.out⟩
  case round =>
    obtain ⟨j, hj, rfl, rfl, hown, hbel⟩ := hrel
    have HOj := hide hown
    have HBj := hide hbel
    have HBj' : Hid (Below (w.alloc (.cells (bc zs) 59)).heap.size (w.alloc (.cells (bc zs) 59)) wr) := by rw [HHS.out]; exact hbel
    clear hown hbel
    · obtain rfl : j = 0 := by omega
      obtain ⟨l, hl, x, ⟨hx1, hx2⟩, hj⟩ := joined_new k L (by omega) HLL.out 0 (w.heap.size + 1) 0 S (by omega) H60.out wr (runs_of_own HOj.out)
      have HL := hide hl
      have HX : Hid (NewIs k L 0 S l x) := by
        show NewIs k L 0 S l x
        unfold NewIs
        rw [if_neg hk, if_neg (by rw [HE.out]; simp)]
        split
        · rename_i h; exact hx1 h
        · rename_i h; exact hx2 (by omega)
      have HJ := hide (hj wr (runs_of_own HOj.out))
      have HZj := hide (HZ.out.later HBj'.out)
      have HBn := hide (below_trans HB.out HBj'.out)
      clear hx1 hx2 hj hl
      go_wp2_with (first
        | (go_at_call 245; with_reducible refine Calls.mono HJ.out ?_; rintro e w2 ⟨rfl, hb⟩; have HZ2 := hide (HZj.out.later hb); have HB2 := hide (below_trans HBn.out hb); clear hb)
        | (refine wp_storeP HL.out zs_length HZ2.out _ _ (by rfl) (by rfl) (by rfl) (by rfl) ?_; intro W3 hp hb hk; have HP3 := hide hp; have HB3 := hide (hb _ _ HB2.out (by omega)); clear hp hb hk)
        | (exact ret_page2 Tryz.results182 rfl rfl HL.out HP3.out ⟨⟨l, x, HL.out, HX.out, rfl⟩, HB3.out⟩))
end Go.Proofs.YthgclfhfipfknaaGreat
