/- Nothing is read, wherever. -/
/- The log is opened. -/
/- The log is opened. -/
import Derived.Test.YteocmhbllckpjaaGreatAJD
import Derived.Test.YteocmhbllckpjaaGreatB9
namespace Go.Proofs.YteocmhbllckpjaaGreat
open Go.ChangeShapes Go.WideShapes Go.ChangeAt Go.RowKit
open Go.ChangeMaps (setBlock)
set_option linter.unusedVariables false

theorem conv_zero (w : World) (g o c : Nat) : (convert 62 9 (.slice (some ⟨g, o, none⟩) 0 c)).run Tryz.prog w = .ok (.string (bstr [])) w := by
  have hcv := run_convert_bytes_arg (P := Tryz.prog) w 62 5 Tryz.underlying62 Tryz.underlying5 g o 0 c [] (by simp) (fun i hi => by omega) 9 Tryz.underlying9
  exact hcv
set_option maxRecDepth 100000 in
theorem read_zero (w : World) (base eb : Nat) (v : Value) (l : List UInt8) (at_ : Nat) (hc : w.cell? ⟨eb, 0, none⟩ = some v) (hown : Own w base v l) (hl : l.length ≤ 1048576) :
    Calls Tryz.prog 40 #[.pointer (some ⟨eb, 0, none⟩), .int .i64 at_, .int .i64 0] w fun e w' => e = .returned (.string (bstr [])) ∧ w = w' := by
  rcases hown.2 with ⟨rfl, hz⟩ | ⟨g, cap, cur, rfl, hbg, hg, hnc, hcm, hcs, htake⟩
  · obtain rfl : l = [] := List.eq_nil_of_length_eq_zero hz
    have hcv := run_convert_bytes_nil (P := Tryz.prog) w 62 5 Tryz.underlying62 Tryz.underlying5 0 0 9 Tryz.underlying9
    clear hown
    rcases Nat.eq_zero_or_pos at_ with rfl | hp
    · go_enter Tryz.func40, Tryz.ntmps40
      go_wp2_with (go_at_call 79; refine (size_of w eb 0 none 0 0 hc).mono ?_; rintro e w2 ⟨rfl, rfl⟩)
      go_ret
      exact ⟨rfl, rfl⟩
    · have h2 : (0 : Int) < (at_ : Int) := by omega
      go_enter Tryz.func40, Tryz.ntmps40
      go_wp2_with (go_at_call 79; refine (size_of w eb 0 none 0 0 hc).mono ?_; rintro e w2 ⟨rfl, rfl⟩)
      go_ret
      exact ⟨rfl, rfl⟩
  · by_cases hle : at_ ≤ l.length
    · have hcv := conv_zero w g
      generalize bstr [] = RES at hcv ⊢
      have h1 : ¬ (l.length : Int) < (at_ : Int) := by omega
      have h2 : ¬ (l.length : Int) - (at_ : Int) < 0 := by omega
      have h4 : (at_ : Int) ≤ (cap : Int) := by omega
      have h0 : (0 : Int) ≤ (at_ : Int) := by omega
      clear hown htake hcs hg
      go_enter Tryz.func40, Tryz.ntmps40
      go_wp2_with (go_at_call 79; refine (size_of w eb 0 _ _ _ hc).mono ?_; rintro e w2 ⟨rfl, rfl⟩)
      all_goals
        go_ret
        exact ⟨rfl, rfl⟩
    · have hcv := conv_zero w g
      generalize bstr [] = RES at hcv ⊢
      have h1 : (l.length : Int) < (at_ : Int) := by omega
      have h4 : (l.length : Int) ≤ (cap : Int) := by omega
      have h0 : (0 : Int) ≤ (l.length : Int) := by omega
      clear hown htake hcs hg
      go_enter Tryz.func40, Tryz.ntmps40
      go_wp2_with (go_at_call 79; refine (size_of w eb 0 _ _ _ hc).mono ?_; rintro e w2 ⟨rfl, rfl⟩)
      all_goals
        go_ret
        exact ⟨rfl, rfl⟩
theorem Read_zero (w : World) (base b : Nat) (D : DS) (who : Nat → Nat) (R : Rep w base b D who) (hdn : D.down = false) (nm : ByteArray) (at_ : Nat) (hl : (seenOf D nm).length ≤ 1048576) :
    Calls Tryz.prog 12 #[.pointer (some ⟨b, 0, none⟩), .string nm, .int .i64 at_, .int .i64 0] w fun e w' => e = .returned (.tuple #[.string (bstr []), .int .i64 0]) ∧ w.grownBy w' none := by
  have RF := refusal_some w b D.mb D.cv D.room D.fuse D.steps D.starts false (by have := R.blk; unfold DS.cells at this; rw [hdn] at this; exact this)
  have S := seen_own w base b D who R nm
  have h1 : ¬ (at_ : Int) < 0 := by omega
  clear R
  generalize seenOf D nm = l at *
  go_enter Tryz.func12, Tryz.ntmps12
  go_wp2_with (first
    | (go_at_call 38; refine RF.mono ?_; rintro e w0 ⟨rfl, rfl⟩)
    | (go_at_call 39; refine S.mono ?_; rintro e w1 ⟨eb, v, rfl, hc, ho, hg⟩)
    | (go_at_call 40; refine (read_zero w1 base eb v l at_ hc ho hl).mono ?_; rintro e w2 ⟨rfl, rfl⟩))
  go_ret2
  exact ⟨rfl, hg⟩
end Go.Proofs.YteocmhbllckpjaaGreat

namespace Go.Proofs.YteocmhbllckpjaaGreat
open Go.ChangeShapes Go.WideShapes Go.ChangeAt Go.RowKit
open Go.ChangeMaps (setBlock)
set_option linter.unusedVariables false

/-- A file that is a log of so many frames. -/
structure Lgf (l : List UInt8) (K : Nat) (N E : Nat → Nat) (P : Nat → List UInt8) : Prop where
  hd : hdw l 0 = K ∧ hdw l 1 = 0 ∧ hdw l 2 = 0 ∧ hdw l 3 = 0
  few : K ≤ 180
  len : K = 0 ∨ 64 + 320 * K ≤ l.length
  fr : ∀ k, k < K → subL l (64 + 320 * k) 320 = frB (N k) (E k) (P k)
  all : Fra N E P
  end_ : K = 0 ∨ E (K - 1) ≠ 0
def txt (l : List UInt8) (K : Nat) : List UInt8 := (l.drop 64).take (320 * K)
theorem Lgf.frs {l : List UInt8} {K : Nat} {N E : Nat → Nat} {P : Nat → List UInt8} (h : Lgf l K N E P) : Frs (txt l K) K N E P where
  len := by
    unfold txt
    rw [List.length_take, List.length_drop]
    rcases h.len with rfl | h
    · simp
    · omega
  fr := fun k hk => by
    rw [← h.fr k hk]
    unfold subL txt
    rw [List.drop_take, List.drop_drop, List.take_take]
    congr 1
    omega
  num := fun k _ => h.all.num k
  en := fun k _ => h.all.en k
  ne := fun k _ => h.all.ne k
  pg := fun k _ => h.all.pg k
theorem read_txt (w : World) (base b : Nat) (D : DS) (who : Nat → Nat) (R : Rep w base b D who) (hdn : D.down = false) (hl : (seenOf D nmJ).length ≤ 1048576) {K : Nat} {N E : Nat → Nat} {P : Nat → List UInt8} (h : Lgf (seenOf D nmJ) K N E P) :
    Calls Tryz.prog 12 #[.pointer (some ⟨b, 0, none⟩), .string nmJ, .int .i64 64, .int .i64 (320 * (K : Int))] w fun e w' => e = .returned (.tuple #[.string (bstr (txt (seenOf D nmJ) K)), .int .i64 0]) ∧ w.grownBy w' none := by
  rcases h.len with rfl | hlen
  · have := Read_zero w base b D who R hdn nmJ 64 hl
    simpa [txt] using this
  · rcases Nat.eq_zero_or_pos K with rfl | hp
    · have := Read_zero w base b D who R hdn nmJ 64 hl
      simpa [txt] using this
    · have := Read_in w base b D who R hdn nmJ 64 (320 * K) hl (by omega) (by omega)
      rwa [show ((320 * K : Nat) : Int) = 320 * (K : Int) by omega] at this
end Go.Proofs.YteocmhbllckpjaaGreat

namespace Go.Proofs.YteocmhbllckpjaaGreat
open Go.ChangeShapes Go.WideShapes Go.ChangeAt Go.RowKit
open Go.ChangeMaps (setBlock)
set_option linter.unusedVariables false

theorem at93S {P : Program} {ops : Array Oper} {Q : Exit → Act → World → Prop} {d : Option Tmp} {x y : Operand} {ty : TypeId} {pos : String} {af : Array Edge} {gd : Option (Nat × Bool)} {rest : List Oper} {a : Act} {w : World} (h : wpList P ops Q ({ dst := d, op := .store 93 x y, type := ty, pos := pos, after := af, guard := gd } :: rest) a w) : wpList P ops Q ({ dst := d, op := .store 93 x y, type := ty, pos := pos, after := af, guard := gd } :: rest) a w := h
theorem at93L {P : Program} {ops : Array Oper} {Q : Exit → Act → World → Prop} {d : Option Tmp} {x : Operand} {ty : TypeId} {pos : String} {af : Array Edge} {gd : Option (Nat × Bool)} {rest : List Oper} {a : Act} {w : World} (h : wpList P ops Q ({ dst := d, op := .load 93 x, type := ty, pos := pos, after := af, guard := gd } :: rest) a w) : wpList P ops Q ({ dst := d, op := .load 93 x, type := ty, pos := pos, after := af, guard := gd } :: rest) a w := h
theorem u93 : ∃ d, Tryz.prog.underlying 93 = some d ∧ d.isRow = true := ⟨_, Tryz.underlying93, rfl⟩
theorem info93 : (Tryz.prog.info? 93).map (·.size) = some 3 := by kernel_rfl
theorem three_one {a : Option Addr} {s : ByteArray} {k : Int} : (#[Value.pointer a, .string s, .int .i64 k]).all (·.oneCell') = true := all_oneCell_toArray (cs := [Value.pointer a, .string s, .int .i64 k]) (by intro v hv; simp at hv; rcases hv with rfl | rfl | rfl <;> rfl)

set_option maxHeartbeats 4000000 in
set_option maxRecDepth 20000 in
theorem open_w (w : World) (base b : Nat) (D : DS) (who : Nat → Nat) (R : Rep w base b D who) {r : Int} {i : Nat} (h : JI r D i) {K : Nat} {N E : Nat → Nat} {P : Nat → List UInt8} (hL : Lgf (seenOf D nmJ) K N E P) :
    Calls Tryz.prog 42 #[.pointer (some ⟨b, 0, none⟩)] w fun e w' => e = .returned (.tuple #[lgV b (txt (seenOf D nmJ) K) K, .int .i64 0]) ∧ w.grownBy w' none := by
  have hl := h.len nmJ
  have HRh := hideJ (fun V (hg : w.grownBy V none) => readHead_w V base b D who (R.keep hg) h)
  rw [hd_eq, hL.hd.1, hL.hd.2.1, hL.hd.2.2.1, hL.hd.2.2.2] at HRh
  have HRt := hideJ (fun V (hg : w.grownBy V none) => read_txt V base b D who (R.keep hg) h.down (by omega) hL)
  have hK := hL.few
  have HWh := hideJ (fun V => whole_w V b (txt (seenOf D nmJ) K) K (by omega) N E P hL.frs hL.all hL.end_)
  have HFs : Hid (∀ V, Calls Tryz.prog 81 #[.int .i64 1] V fun e w' => e = .returned (.int .i64 64) ∧ V = w') := fun V => frameStart_w V 0 (by omega)
  have l1 : (K : Int) ≤ 3276 := by omega
  have l2 : ¬ (3276 : Int) < (K : Int) := by omega
  have hw1 : IntKind.i64.wrap (K : Int) = (K : Int) := by rw [IntKind.wrap_i64]; omega
  have hw2 : IntKind.i64.wrap (320 * (K : Int)) = 320 * (K : Int) := by rw [IntKind.wrap_i64]; omega
  have HI4 := hideJ info40s
  clear hK hL R h
  generalize txt (seenOf D nmJ) K = T at *
  go_enter Tryz.func42, Tryz.ntmps42
  go_upto_region 1 with fail
  go_name_world W0 hW0
  have HG0 : Hid (w.grownBy W0 none) := by show w.grownBy W0 none; rw [← hW0]; exact World.grownBy_alloc _ _ _
  have HS0 : Hid (Blk W0 w.heap.size #[.pointer none, .string ⟨#[]⟩, .int .i64 0] 93) := by show Blk _ _ _ _; rw [← hW0]; exact alloc_new _ _
  clear hW0
  have hI93 := info93
  have HI93 := hideJ hI93
  clear hI93
  go_upto_region 4 with (first
    | (go_at_call 80; (with_reducible refine Calls.mono (HRh.out _ HG0.out) ?_); rintro e w1 ⟨rfl, hg⟩; have HG1 := hideJ (grown_trans' HG0.out hg); have HS1 := hideJ (Blk.grown HS0.out hg); have HN1 := hideJ (alloc_new w1 (.cells #[.int .u32 0, .int .u32 0, .int .u32 0, .int .u32 0] 159)); clear hg)
    | ((with_reducible refine at63S ?_); refine wp_storeB (c := #[.int .u32 (K : Int), .int .u32 (0 : Nat), .int .u32 (0 : Nat), .int .u32 (0 : Nat)]) HI4.out (by rfl) four_one HN1.out _ _ (by rfl) (by rfl) (by rfl) (by rfl) ?_; intro W2 hb2 ho2; have HB2 := hideJ hb2; have HG2 := hideJ (grown_only (grown_trans' HG1.out (World.grownBy_alloc _ _ _)) ho2 HG1.out.size); have HS2 := hideJ (Blk.allocO HS1.out ho2); clear hb2 ho2))
  have d0 := (HB2.out.cell 0).trans (show _ = some (Value.int .u32 (K : Int)) from rfl)
  have d1 := (HB2.out.cell 1).trans (show _ = some (Value.int .u32 0) from rfl)
  have d2 := (HB2.out.cell 2).trans (show _ = some (Value.int .u32 0) from rfl)
  have d3 := (HB2.out.cell 3).trans (show _ = some (Value.int .u32 0) from rfl)
  have HN2 : Hid (Blk (W2.alloc (.cells #[.pointer none, .string ⟨#[]⟩, .int .i64 0] 93)) W2.heap.size #[.pointer none, .string ⟨#[]⟩, .int .i64 0] 93) := alloc_new _ _
  go_upto_region 7 with (first
    | ((with_reducible refine at93S ?_); refine wp_storeB (c := #[.pointer (some ⟨b, 0, none⟩), .string ⟨#[]⟩, .int .i64 (K : Int)]) HI93.out (by rfl) three_one HN2.out _ _ (by rfl) (by rfl) (by rfl) (by rfl) ?_; intro W3 hb3 ho3; have HB3 := hideJ hb3; have HG3 := hideJ (grown_only (grown_trans' HG2.out (World.grownBy_alloc _ _ _)) ho3 HG2.out.size); have HS3 := hideJ (Blk.allocO HS2.out ho3); clear hb3 ho3))
  simp only [Act.put]
  clear d0 d1 d2 d3
  have HLt : Hid (w.heap.size < W2.heap.size) := HS2.out.lt
  have HB3d : Hid (Blk W3.drew W2.heap.size #[.pointer (some ⟨b, 0, none⟩), .string ⟨#[]⟩, .int .i64 (K : Int)] 93) := HB3.out
  have HG3d : Hid (w.grownBy W3.drew none) := grown_trans' HG3.out (World.grownBy_drew _)
  have HS0c := hideJ ((HB3d.out.cell 2).trans (show _ = some (Value.int .i64 (K : Int)) from rfl))
  go_region_held3 (fun V => V.cell? ⟨W2.heap.size, 2, none⟩ = some (Value.int .i64 (K : Int))) (first | with_reducible exact HS0c.out | with_reducible exact HS4c.out | with_reducible exact HS5c.out) (first
    | (go_at_call 81; (with_reducible refine Calls.mono (HFs.out _) ?_); rintro e w4 ⟨rfl, rfl⟩)
    | (go_at_call 12; (with_reducible refine Calls.mono (HRt.out _ HG3d.out) ?_); rintro e W4 ⟨rfl, hg⟩; have HB4 := hideJ (Blk.grown HB3d.out hg); have HG4 := hideJ (grown_trans' HG3d.out hg); have HS4 := hideJ (Blk.grown HS3.out (grown_trans' (World.grownBy_drew _) hg)); have HS4c := hideJ ((HB4.out.cell 2).trans (show _ = some (Value.int .i64 (K : Int)) from rfl)); have HB5 : Hid (Blk (W4.setCell ⟨W2.heap.size, 1, none⟩ (.string (bstr T))) W2.heap.size #[.pointer (some ⟨b, 0, none⟩), .string (bstr T), .int .i64 (K : Int)] 93) := HB4.out.set 1 (.string (bstr T)); have HS5c := hideJ ((HB5.out.cell 2).trans (show _ = some (Value.int .i64 (K : Int)) from rfl)); have q1 := (HB4.out.cell 1).trans (show _ = some (Value.string ⟨#[]⟩) from rfl); have f1 := HB4.out.frozen 1; clear hg))
  all_goals
    have HG5 := hideJ (grown_only HG4.out (Only.setCell W4 ⟨W2.heap.size, 1, none⟩ (.string (bstr T))) (by have := HLt.out; show w.heap.size ≤ W2.heap.size; omega))
    have HS5 := hideJ (only_blk HS4.out (Only.setCell W4 ⟨W2.heap.size, 1, none⟩ (.string (bstr T))) (by have := HLt.out; show w.heap.size ≠ W2.heap.size; omega))
    clear q1 f1
    generalize W4.setCell ⟨W2.heap.size, 1, none⟩ (.string (bstr T)) = W5 at HB5 HG5 HS5 ⊢
    go_wp2_with (first
      | ((with_reducible refine at93L ?_); refine wp_loadB (c := #[.pointer (some ⟨b, 0, none⟩), .string (bstr T), .int .i64 (K : Int)]) HI93.out u93 HB5.out _ (by rfl) (by rfl) (by rfl) ?_)
      | ((with_reducible refine at93L ?_); refine wp_loadB (c := #[.pointer (some ⟨b, 0, none⟩), .string (bstr T), .int .i64 (K : Int)]) HI93.out u93 HB6.out _ (by rfl) (by rfl) (by rfl) ?_)
      | (go_at_call 82; (with_reducible refine Calls.mono (HWh.out _) ?_); rintro e W6 ⟨rfl, hb⟩; have hg : W5.grownBy W6 none := ⟨hb.os, hb.tape, hb.output, hb.size, fun k hk _ => hb.block k hk⟩; have HB6 := hideJ (Blk.grown HB5.out hg); have HG6 := hideJ (grown_trans' HG5.out hg); have HS6 := hideJ (Blk.grown HS5.out hg); clear hg hb)
      | ((with_reducible refine at93S ?_); refine wp_storeB (c := #[.pointer (some ⟨b, 0, none⟩), .string (bstr T), .int .i64 (K : Int)]) HI93.out (by rfl) three_one HS6.out _ _ (by rfl) (by rfl) (by rfl) (by rfl) ?_; intro W7 hb7 ho7; have HB7 := hideJ hb7; have HG7 := hideJ (grown_only HG6.out ho7 (by omega)); clear hb7 ho7))
    refine ret_blk2 (v := .int .i64 0) HI93.out u93 (by rfl) (by rfl) (by rfl) HB7.out ?_
    exact ⟨rfl, HG7.out⟩
end Go.Proofs.YteocmhbllckpjaaGreat
