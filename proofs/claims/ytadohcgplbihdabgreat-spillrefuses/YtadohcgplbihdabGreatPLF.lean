/- Package spill: what is found of a stub without a chain. -/
import Derived.Test.YtadohcgplbihdabGreatPLE
namespace Go.Proofs.YtadohcgplbihdabGreat
open Go.ChangeShapes Go.WideShapes Go.ChangeAt Go.RowKit Go.Maps
set_option linter.unusedVariables false

theorem bd_new (w : World) : Lib.IsBuilder 172 5 w.heap.size w.heap.size [] (w.alloc (.cells #[.pointer none, .slice none 0 0] 172)) := .inl ⟨Nat.le_refl _, _, Blk.new w _ _, ⟨by simp, .inl ⟨rfl, rfl⟩⟩, by simp [Value.ownBlock]⟩
theorem cells3_later {w w' : World} (b : Below w.heap.size w w') {x y z : Addr} {v1 v2 v3 : Value} (h : w.cell? x = some v1 ∧ w.cell? y = some v2 ∧ w.cell? z = some v3) : w'.cell? x = some v1 ∧ w'.cell? y = some v2 ∧ w'.cell? z = some v3 := ⟨cell_later b h.1, cell_later b h.2.1, cell_later b h.2.2⟩
theorem cells3_set {w : World} {b g : Nat} (hn : b ≠ g) (v : Value) {v1 v2 v3 : Value} (h : w.cell? ⟨b, 0, none⟩ = some v1 ∧ w.cell? ⟨b, 1, none⟩ = some v2 ∧ w.cell? ⟨b, 2, none⟩ = some v3) : (w.setCell ⟨g, 0, none⟩ v).cell? ⟨b, 0, none⟩ = some v1 ∧ (w.setCell ⟨g, 0, none⟩ v).cell? ⟨b, 1, none⟩ = some v2 ∧ (w.setCell ⟨g, 0, none⟩ v).cell? ⟨b, 2, none⟩ = some v3 := by
  have e : (w.setCell ⟨g, 0, none⟩ v).heap[b]? = w.heap[b]? := Below.heap_setCell _ _ _ _ hn
  exact ⟨(World.cell?_of_block (a := ⟨b, 0, none⟩) e).trans h.1, (World.cell?_of_block (a := ⟨b, 1, none⟩) e).trans h.2.1, (World.cell?_of_block (a := ⟨b, 2, none⟩) e).trans h.2.2⟩
theorem bd_later {w w' : World} {T e B b : Nat} {p : Value} {bs : List Value} (h : Lib.BuilderAt T e B b p bs w) (hb : Below w.heap.size w w') : Lib.BuilderAt T e B b p bs w' := by
  obtain ⟨h1, v, h2, h3, h4⟩ := h
  exact ⟨h1, v, Blk.later h2 hb, h3.kept (row := none) ⟨hb.os, hb.tape, hb.output, hb.size, fun k hk _ => hb.block k hk⟩ (by cases hv : v.ownBlock <;> simp), h4⟩
theorem fs_a {w8 w9 : World} (hb : Below w8.drew.heap.size w8.drew w9) : Below w8.heap.size w8 (w9.alloc (.cells #[.int .i64 0] 3)) ∧ (w9.alloc (.cells #[.int .i64 0] 3)).cell? ⟨w9.heap.size, 0, none⟩ = some (.int .i64 0) :=
  ⟨below_trans (show Below w8.heap.size w8 w9 from ⟨hb.os, hb.tape, hb.output, hb.size, hb.block⟩) (below_alloc _ _), (Blk.new w9 _ _).cell 0⟩
theorem fs_b {w8 w9 : World} (hb : Below (w8.drew.alloc (.cells #[.int .i64 0] 3)).heap.size (w8.drew.alloc (.cells #[.int .i64 0] 3)) w9) : Below w8.heap.size w8 (w9.setCell ⟨w8.heap.size, 0, none⟩ (.int .i64 0)) ∧ (w9.setCell ⟨w8.heap.size, 0, none⟩ (.int .i64 0)).cell? ⟨w8.heap.size, 0, none⟩ = some (.int .i64 0) := by
  have h := below_trans (below_alloc w8.drew (.cells #[.int .i64 0] 3)) hb
  exact ⟨Below.setCell (show Below w8.heap.size w8 w9 from ⟨h.os, h.tape, h.output, h.size, h.block⟩) (p := ⟨w8.heap.size, 0, none⟩) (Nat.le_refl _) _, (Blk.set (Blk.later (Blk.new w8.drew #[Value.int .i64 0] 3) hb) 0 _).cell 0⟩
theorem below_up {w a b : World} {B : Nat} (h : Below w.heap.size w a) (hb : Below B a b) (hB : w.heap.size ≤ B) : Below w.heap.size w b := h.trans (hb.mono hB)
theorem fs_below {w w8 X : World} (h : Below w.heap.size w w8) (hb : Below w8.heap.size w8 X) : Below w.heap.size w X := below_trans h hb
set_option maxRecDepth 20000 in
set_option maxHeartbeats 2000000 in
theorem find_short (w : World) (t pm m : Nat) {P : Nat → List UInt8} {K : Nat} {wr : Bool} (h : Tr w t pm m P K wr) (s : ByteArray) (n : Nat) (hn : n ≤ 40) (hu : Rec.vrdU s.data.toList = n) (hN : Rec.vrdN s.data.toList = 1) (hsz : n + 1 ≤ s.size) (hs : s.size ≤ 140737488355328) (k : ByteArray) (hk : s.extract 1 (n + 1) = k) (hks : k.size = n) :
    Calls Tryz.prog 53 #[.pointer (some ⟨t, 0, none⟩), .string s] w fun e w' => e = .returned (.tuple #[.agg (kpA k (n + 1 : Nat) none 0 0), .int .i64 0]) ∧ Below w.heap.size w w' := by
  have HM := hide (fun X (hb : Below w.heap.size w X) => pmayRead_e X _ zs zs_length 4 (h.later hb).mayR)
  have HR := hide (fun X => read_short X s n hn hu hN hsz hs)
  rw [hk] at HR
  have HI0 := hide (sizeK k (n + 1 : Nat) none 0 0)
  have HJ0 := hide (sizeS n k 0)
  have HK0 := hide (kp_new w)
  have HB0 := hide (below_alloc w (.cells #[.string ⟨#[]⟩, .int .i64 0, .slice none 0 0] 107))
  have HBh := hide (fun X => behind_e X n k 0 (by omega) (by omega))
  rw [show (n : Int) - k.size = 0 by omega] at HBh
  unfold stA at HBh
  have HWr := hide (fun (V : World) => bd_write V.heap.size V.heap.size [] k (V.alloc (.cells #[.pointer none, .slice none 0 0] 172)) (bd_new V) (by simp; omega) (by simp))
  have HSt := hide (fun B X (hb : Lib.BuilderAt 172 5 B B (.pointer (some ⟨B, 0, none⟩)) ([] ++ Lib.strCells k) X) => Tryz.Builder_String_any B B k.data.toList X (.inr hb) (Nat.le_of_lt hb.lt))
  clear h hu hN hsz hn hk hks hs
  go_enter Tryz.func53, Tryz.ntmps53
  go_wp2
  go_step3
  go_wp2_with (first
    | (go_at_call 88; (with_reducible refine Calls.mono (HM.out _ HB0.out) ?_); rintro e w4 ⟨rfl, hb⟩; rw [show unN 4 = 0 by rfl]; have HB4 := hide (below_trans HB0.out hb); have HK4 := hide (Blk.later HK0.out hb); clear hb)
    | (go_at_call 89; (with_reducible refine Calls.mono (HR.out _) ?_); rintro e w5 ⟨rfl, hb⟩; have HB5 := hide (below_trans (below_trans HB4.out hb) (below_alloc w5 (.cells #[.int .i64 0, .string ⟨#[]⟩, .int .i64 0] 118))); have HK5 := hide (Blk.later (Blk.later HK4.out hb) (below_alloc w5 (.cells #[.int .i64 0, .string ⟨#[]⟩, .int .i64 0] 118))); have HS5 := hide (st_new w5); have HZ5 := hide (show w.heap.size < w5.heap.size from Nat.lt_of_lt_of_le (Blk.later HK4.out hb).lt (Nat.le_refl _)); clear hb)
    | ((with_reducible refine atSt 118 ?_); refine wp_storeB (c := stA n k 0) (z := stA 0 ⟨#[]⟩ 0) HJ0.out rfl (st_one _ _ _) HS5.out _ _ (by rfl) (by rfl) (by rfl) (by rfl) ?_; intro W6 hb6 ho6; have hb7 := Blk.later hb6 (below_alloc W6 (.cells #[.pointer none, .slice none 0 0] 172)); obtain ⟨s0, s1, s2⟩ := st_cells hb7; have HS7 := hide hb7; have HK7 := hide (Blk.later (Blk.only HK5.out ho6 (by have := HZ5.out; simp; omega)) (below_alloc W6 (.cells #[.pointer none, .slice none 0 0] 172))); have HB7 := hide (below_trans (below_only1 HB5.out ho6 (Nat.le_of_lt HZ5.out)) (below_alloc W6 (.cells #[.pointer none, .slice none 0 0] 172))); have HZ7 := hide hb6.lt; have HZ6 := hide (show w.heap.size < W6.heap.size from Nat.lt_trans HZ5.out hb6.lt); clear hb6 ho6 hb7)
    | (go_at_call 90; (with_reducible refine Calls.mono (HWr.out _) ?_); rintro e w8 ⟨rfl, hd, hb⟩; have hb8 := (hb.block _ HZ7.out).trans HS7.out; obtain ⟨s0', s1', s2'⟩ := st_cells hb8; have HS8 := hide hb8; have HD8 := hide hd; have HB8 := hide (below_up HB7.out hb (Nat.le_of_lt HZ6.out)); have HK8 := hide ((hb.block _ HZ6.out).trans HK7.out); clear hd hb8 s0 s1 s2))
  have HC8 := hide (show w8.drew.cell? ⟨w5.heap.size, 0, none⟩ = some (.int .i64 n) ∧ w8.drew.cell? ⟨w5.heap.size, 1, none⟩ = some (.string k) ∧ w8.drew.cell? ⟨w5.heap.size, 2, none⟩ = some (.int .i64 0) from ⟨s0', s1', s2'⟩)
  have HA8 := hide (cells3_later (below_alloc w8.drew (.cells #[.int .i64 0] 3)) HC8.out)
  have HN8 := hide (show w5.heap.size ≠ w8.heap.size from Nat.ne_of_lt (Blk.lt HS8.out))
  go_region_held3 (fun V => V.cell? ⟨w5.heap.size, 0, none⟩ = some (.int .i64 n) ∧ V.cell? ⟨w5.heap.size, 1, none⟩ = some (.string k) ∧ V.cell? ⟨w5.heap.size, 2, none⟩ = some (.int .i64 0)) (first | exact HC8.out | exact HA8.out | exact HC9.out | exact HA9.out) (first
    | (go_at_call 91; (with_reducible refine Calls.mono (HBh.out _) ?_); rintro e w9 ⟨rfl, hb⟩; have HC9 := hide (cells3_later hb HC8.out); have HA9 := hide (cells3_later (below_alloc w9 (.cells #[.int .i64 0] 3)) HC9.out); have HX := hide (fs_a hb); clear hb)
    | (go_at_call 91; (with_reducible refine Calls.mono (HBh.out _) ?_); rintro e w9 ⟨rfl, hb⟩; have HC9 := hide (cells3_later hb HA8.out); have hL := Blk.later (Blk.new w8.drew #[Value.int .i64 0] 3) hb; have c13 : w9.cell? ⟨w8.heap.size, 0, none⟩ = some (.int .i64 0) := hL.cell 0; have f13 : w9.frozen? ⟨w8.heap.size, 0, none⟩ = false := hL.frozen 0; have HA9 := hide (cells3_set HN8.out (.int .i64 0) HC9.out); have HX := hide (fs_b hb); clear hb hL))
  all_goals
    go_wp2
    go_name_world W hW
    have hX := HX.out
    rw [hW] at hX
    clear hW HX HC9 HA9
    have HD9 := hide (bd_later HD8.out hX.1)
    have HB9 := hide (fs_below HB8.out hX.1)
    have HK9 := hide (Blk.later HK8.out hX.1)
    have cl := hX.2
    have HZ9 := hide hX.1.size
    clear hX
    go_step3
    go_wp2
    go_loopw [11, 12] (fun p q wr => p = .slice none 0 0 ∧ q = .int .i64 0 ∧ wr = W) (fun _ _ _ => 0)
    case atStart => exact ⟨rfl, rfl, rfl⟩
    case round =>
      obtain ⟨rfl, rfl, rfl⟩ := hrel
      go_wp2_with (first
        | (go_at_call 97; (with_reducible refine Calls.mono (HSt.out _ _ HD9.out) ?_); rintro e w11 ⟨rfl, hb⟩; have HB11 := hide (below_up HB9.out hb (Nat.le_of_lt HZ6.out)); have HK11 := hide ((hb.block _ HZ6.out).trans HK9.out); clear hb)
        | ((with_reducible refine atSt 107 ?_); refine wp_storeB (c := kpA k (n + 1 : Nat) none 0 0) (z := kpA ⟨#[]⟩ 0 none 0 0) HI0.out rfl (kp_one _ _ _ _ _) HK11.out _ _ (by rfl) (by rfl) (by rfl) (by rfl) ?_; intro W12 hb12 ho12; have HK12 := hide hb12; have HB12 := hide (below_only1 HB11.out ho12 (Nat.le_refl _)); clear hb12 ho12))
      rw [Exit.noGoto_ret]
      refine ret_blk2 (c := kpA k (n + 1 : Nat) none 0 0) HI0.out uK Tryz.results53 (by rfl) (by rfl) HK12.out ?_
      exact ⟨rfl, HB12.out⟩
end Go.Proofs.YtadohcgplbihdabGreat
