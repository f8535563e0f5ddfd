/- The walk of SpillBack. -/
import Derived.Test.YthgclfhfipfknaaGreatPPR
import Derived.Test.YthgclfhfipfknaaGreatRWA
import Derived.Test.YthgclfhfipfknaaGreatPLG
namespace Go.Proofs.YthgclfhfipfknaaGreat
open Go.ChangeShapes Go.WideShapes Go.ChangeAt Go.RowKit Go.Maps
set_option linter.unusedVariables false

/-- A row of steps that came in. -/
def OpQ (w : World) (p : Option Addr) (len : Nat) (D : Nat → Bool) (N : Nat → Int) (B : Nat → Nat) (S : Nat → ByteArray) : Prop := 0 < len → ∃ b o, p = some ⟨b, o, none⟩ ∧ ∀ i, i < len → (∀ j v, (opA (D i) (N i) (B i) (S i)).toList[j]? = some v → w.cell? ⟨b, o + i * 4 + j, none⟩ = some v) ∧ B i < 256 ∧ (S i).size ≤ 140737488355328
theorem opSize (d : Bool) (N : Int) (B : Nat) (s : ByteArray) : (Tryz.prog.info? 34).map (·.size) = some (opA d N B s).toList.length := by
  show _ = some 4
  kernel_rfl
theorem nilSv (w : World) (base pm : Nat) : Sv w base (.slice none 0 0) [] pm := ⟨World.ownsRow_nil _ _ _ _, fun s hs => by cases hs⟩
theorem p1_start {w w1 : World} {t pm : Nat} {pl : Nat → ByteArray} (h : Ld (.slice none 0 0) w1 t pm 1 (upP zPg 1 (firstL 0 zN)) 1 0 zN) (hb : Below w.heap.size w w1) (h1 : w.heap.size ≤ t) (h2 : w.heap.size ≤ pm) : P1 (.slice none 0 0) w w1 t pm w1.heap.size 1 (upP zPg 1 (firstL 0 zN)) 1 pl [] ∧ RwS w1 w1.heap.size (.slice none 0 0) [] :=
  ⟨⟨⟨h, .nil, List.nodup_nil⟩, nilSv _ _ _, hb, by simp, by simp, by simp, by simp, by simp, by simp, ⟨h1, h2, hb.size, Nat.le_refl _⟩⟩, World.ownsRow_nil _ _ _ _⟩
theorem rw_cell {wr : World} {base n cap : Nat} {p : Option Addr} {Ks : List Kd} (h : RwS wr base (.slice p n cap) Ks) {j : Nat} {x : Kd} (hx : Ks[j]? = some x) : ∃ g, p = some ⟨g, 0, none⟩ ∧ wr.cell? ⟨g, j, none⟩ = some (.string x.st) := by
  have hj := (List.getElem?_eq_some_iff.1 hx).1
  unfold RwS at h
  rcases h.2 with ⟨_, e⟩ | ⟨g, cap, cur, hv, _, hgg, _, _, _, htk⟩
  · omega
  · injection hv with e1 _ _
    refine ⟨g, e1, ?_⟩
    rw [Lib.cell_of_heap hgg]
    have e : cur[j]? = (cur.toList.take (Ks.length * 1))[j]? := by rw [List.getElem?_take_of_lt (by omega)]; simp
    rw [e, htk, List.getElem?_map, hx]
    rfl
theorem get_kd {sv : Value} {w wr : World} {t pm base n : Nat} {P : Nat → List UInt8} {K : Nat} {pl : Nat → ByteArray} {Ks : List Kd} {F : List Nat} {j : Nat} {x : Kd} (h : P2 sv w wr t pm base n P K pl Ks F j) (hx : Ks[j]? = some x) (h4 : (pl j).size ≤ 4000) : Calls Tryz.prog 19 #[.pointer (some ⟨t, 0, none⟩), .string x.st] wr fun e w' => e = .returned (.tuple #[.string (pl j), .int .i64 (x.st.size : Int), .int .i64 0]) ∧ Below wr.heap.size wr w' := by
  obtain ⟨h1, h2, _, _, h5⟩ := h.found hx h4
  have hf := find_any wr t pm n h.sp.ld.tr x.st (by omega)
  rw [h1, h2] at hf
  exact pget_any wr _ x.st x.st.size (some ((pl j).data.toList, x.G)) hf
theorem drop_kp {sv : Value} {w wr : World} {t pm base n : Nat} {P : Nat → List UInt8} {K : Nat} {pl : Nat → ByteArray} {Ks : List Kd} {F : List Nat} {j : Nat} {x : Kd} (h : P2 sv w wr t pm base n P K pl Ks F j) (hx : Ks[j]? = some x) (h4 : (pl j).size ≤ 4000) (hl : Ks.length ≤ 40) (hj : j ≤ 40) : Calls Tryz.prog 9 #[.pointer (some ⟨t, 0, none⟩), .string x.st] wr fun e w' => e = .returned (.int .i64 0) ∧ DpE wr w' w.heap.size t pm n base P K F zN x.G := by
  obtain ⟨h1, _, h3, h4', h5⟩ := h.found hx h4
  have k3 := h.k3
  exact drop_g wr w.heap.size t pm n base h.sp h.ss (by omega) x.st (by omega) _ _ h1 h3 h4' h.bs
theorem free_kd {sv : Value} {w wr : World} {t pm base n : Nat} {P : Nat → List UInt8} {K : Nat} {pl : Nat → ByteArray} {Ks : List Kd} {F : List Nat} (h : P2 sv w wr t pm base n P K pl Ks F Ks.length) : F.length + 1 = n ∧ Calls Tryz.prog 17 #[.pointer (some ⟨t, 0, none⟩)] wr fun e w' => ∃ p c, e = .returned (.tuple #[.slice p F.length c, .int .i64 0]) ∧ Below wr.heap.size wr w' := by
  have hl := h.ln
  rw [List.drop_length, List.flatMap_nil, List.append_nil] at hl
  refine ⟨hl, ?_⟩
  have hf := free_e wr t pm n h.sp.ld
  rw [h.sp.ch.free (n - 1) (by omega)] at hf
  refine hf.mono ?_
  rintro e w' ⟨v, rfl, ho, hb⟩
  obtain ⟨p, c, rfl⟩ := own_form ho
  exact ⟨p, c, rfl, hb⟩
set_option maxRecDepth 20000 in
set_option maxHeartbeats 8000000 in
theorem sback_core (w : World) (p : Option Addr) (len cap : Nat) (D : Nat → Bool) (N : Nat → Int) (B : Nat → Nat) (S : Nat → ByteArray) (hp : OpQ w p len D N B S) (hlen : len ≤ 40) :
    Calls Tryz.prog 4 #[.slice p len cap] w fun e w' => e = .returned (.bool true) ∧ Below w.heap.size w w' := by
  have HAw := hide (fun V => pawake_e V)
  have l1 : ¬ (40 : Int) < (len : Int) := by omega
  have HO := hide (plopen_l w)
  have HPg := hide hp
  have HLn := hide hlen
  obtain ⟨pl, hpl⟩ : ∃ pl : Nat → ByteArray, pl = fun i => plB (N i) (B i) (S i) := ⟨_, rfl⟩
  have HPl := hide hpl
  clear hp hlen hpl
  go_enter Tryz.func4, Tryz.ntmps4
  go_wp2_with (first
    | (go_at_call 8; (with_reducible refine Calls.mono HO.out ?_); rintro e w1 ⟨t, rfl, pm, h1, h2, h3, h4⟩; have HP1 := hide (p1_start (pl := pl) h1 h2 h3 h4); clear h1 h2 h3 h4))
  go_loopw [5, 6] (fun sv5 kv wr => ∃ (sv : Value) (n : Nat) (P : Nat → List UInt8) (K : Nat) (Ks : List Kd), kv = .int .i64 (Ks.length : Int) ∧ Ks.length ≤ len ∧ P1 sv w wr t pm w1.heap.size n P K pl Ks ∧ RwS wr w1.heap.size sv5 Ks) (fun _ kv _ => len - (intOf kv).toNat)
  case atStart => exact ⟨_, _, _, _, [], rfl, by simp, HP1.out.1, HP1.out.2⟩
  case round =>
    obtain ⟨sv, n, P, K, Ks, rfl, hk, hP, hR⟩ := hrel
    obtain ⟨p5, k5, rfl⟩ := own_form hR
    by_cases hlt : Ks.length < len
    · have l2 : (Ks.length : Int) < (len : Int) := by omega
      have l3 : (0 : Int) ≤ (Ks.length : Int) := by omega
      obtain ⟨b, o, rfl, hc⟩ := HPg.out (by omega)
      obtain ⟨hc1, hB, hS⟩ := hc _ hlt
      have HPay := hide (fun V => payload_e V (D Ks.length) (N Ks.length) (B Ks.length) hB (S Ks.length) hS)
      have e : plB (N Ks.length) (B Ks.length) (S Ks.length) = pl (Ks.length) := by rw [HPl.out]
      rw [e] at HPay
      have HR0 := hide (fun V (hV : Below w.heap.size w V) j' v (hj : (opA (D Ks.length) (N Ks.length) (B Ks.length) (S Ks.length)).toList[j']? = some v) => cell_later hV (hc1 j' v hj))
      have HSz := hide (opSize (D Ks.length) (N Ks.length) (B Ks.length) (S Ks.length))
      clear hc hc1 hB hS e
      generalize D Ks.length = dd at HPay HR0 HSz
      generalize N Ks.length = nn at HPay HR0 HSz
      generalize B Ks.length = bb at HPay HR0 HSz
      generalize S Ks.length = ss at HPay HR0 HSz
      unfold opA at HPay HR0 HSz
      have hwk : IntKind.i64.wrap ((Ks.length : Int) + 1) = ((Ks.length + 1 : Nat) : Int) := by rw [IntKind.wrap_i64]; have := HLn.out; omega
      have HP := hide hP
      have HRw := hide hR
      have HLt : Hid (Ks.length + 1 ≤ len) := hlt
      have HG : Hid ((Ks.length + 1) * 16 ≤ 140737488355328) := by show _ ≤ _; have := HLn.out; omega
      have HPt := hide (fun V (hb : Below wr.heap.size wr V) => (have hPV := hP.later hb; have h3 := hPV.k3; have h17 := hPV.n17; have := HLn.out; put_s V w.heap.size t pm n w1.heap.size hPV.sp hPV.ss (pl Ks.length) (by omega) (by omega) ⟨hPV.bs.1, hPV.bs.2.1, hPV.bs.2.2.1, hPV.bs.2.2.2⟩))
      clear hP hR hk
      by_cases h4 : (pl Ks.length).size ≤ 4000
      · have l4 : ((pl Ks.length).size : Int) ≤ 4000 := by omega
        simp only [if_pos h4] at HPt
        clear h4
        go_wp2_with (first
          | (at_builtin; refine wp_appS2 HR5.out (m := 1) (news := [.string x.st]) rfl (one_cell w4 _ _) (one_str _) HG.out HSz5.out _ _ (by rfl) (by rfl) (by rfl) (by rfl) ?_; intro v2 w6 ho hg; have HR6 := hide (rw_app ho); have HP6 := hide (HP5.out.grown HR5.out hg); clear ho hg)
          | (go_at_call 11; (with_reducible refine Calls.mono (HPay.out _) ?_); rintro e w4 ⟨rfl, hb⟩; have HP5 := hide ((HP3.out.later hb).later (below_alloc w4 (.cells #[.string x.st] 9))); have HR5 := hide (show RwS (w4.alloc (.cells #[.string x.st] 9)) w1.heap.size (.slice p5 Ks.length k5) Ks from (HR3.out.later hb).later (below_alloc w4 (.cells #[.string x.st] 9))); have HSz5 := hide (HP5.out.bs.2.2.2); clear hb)
          | (go_at_call 11; (with_reducible refine Calls.mono (HPay.out _) ?_); rintro e w2 ⟨rfl, hb⟩; have HB2 := hide hb; clear hb)
          | (go_at_call 12; (with_reducible refine Calls.mono (HPt.out _ HB2.out) ?_); rintro e w3 ⟨x, rfl, hpu⟩; obtain ⟨sv3, P3, K3, n3, hP3, hk3⟩ := (HP.out.later HB2.out).put hpu; have HP3 := hide hP3; have HR3 := hide ((HRw.out.later HB2.out).keep hk3); clear hpu hP3 hk3)
          | ((with_reducible refine atLd 34 ?_); refine wpList_load_mid rfl 34 _ rfl b (o + Ks.length * 4) (by rfl) [.bool dd, .int .i64 nn, .int .u8 (bb : Int), .string ss] _ (HR0.out _ HP3.out.bel) Tryz.underlying34 rfl HSz.out ?_)
          | ((with_reducible refine atLd 34 ?_); refine wpList_load_mid rfl 34 _ rfl b (o + Ks.length * 4) (by rfl) [.bool dd, .int .i64 nn, .int .u8 (bb : Int), .string ss] _ (HR0.out _ HP.out.bel) Tryz.underlying34 rfl HSz.out ?_))
        go_roundw
        case rel => exact ⟨sv3, n3, P3, K3, Ks ++ [x], by simp, by simp; exact HLt.out, HP6.out, HR6.out⟩
        case measure => simp [intOf]; have := HLt.out; omega
      · have l4 : ¬ ((pl Ks.length).size : Int) ≤ 4000 := by omega
        simp only [if_neg h4] at HPt
        clear h4
        go_wp2_with (first
          | (at_builtin; refine wp_appS2 HR5.out (m := 1) (news := [.string x.st]) rfl (one_cell w4 _ _) (one_str _) HG.out HSz5.out _ _ (by rfl) (by rfl) (by rfl) (by rfl) ?_; intro v2 w6 ho hg; have HR6 := hide (rw_app ho); have HP6 := hide (HP5.out.grown HR5.out hg); clear ho hg)
          | (go_at_call 11; (with_reducible refine Calls.mono (HPay.out _) ?_); rintro e w4 ⟨rfl, hb⟩; have HP5 := hide ((HP3.out.later hb).later (below_alloc w4 (.cells #[.string x.st] 9))); have HR5 := hide (show RwS (w4.alloc (.cells #[.string x.st] 9)) w1.heap.size (.slice p5 Ks.length k5) Ks from (HR3.out.later hb).later (below_alloc w4 (.cells #[.string x.st] 9))); have HSz5 := hide (HP5.out.bs.2.2.2); clear hb)
          | (go_at_call 11; (with_reducible refine Calls.mono (HPay.out _) ?_); rintro e w2 ⟨rfl, hb⟩; have HB2 := hide hb; clear hb)
          | (go_at_call 12; (with_reducible refine Calls.mono (HPt.out _ HB2.out) ?_); rintro e w3 ⟨x, rfl, hpu⟩; obtain ⟨sv3, P3, K3, n3, hP3, hk3⟩ := (HP.out.later HB2.out).put hpu; have HP3 := hide hP3; have HR3 := hide ((HRw.out.later HB2.out).keep hk3); clear hpu hP3 hk3)
          | ((with_reducible refine atLd 34 ?_); refine wpList_load_mid rfl 34 _ rfl b (o + Ks.length * 4) (by rfl) [.bool dd, .int .i64 nn, .int .u8 (bb : Int), .string ss] _ (HR0.out _ HP3.out.bel) Tryz.underlying34 rfl HSz.out ?_)
          | ((with_reducible refine atLd 34 ?_); refine wpList_load_mid rfl 34 _ rfl b (o + Ks.length * 4) (by rfl) [.bool dd, .int .i64 nn, .int .u8 (bb : Int), .string ss] _ (HR0.out _ HP.out.bel) Tryz.underlying34 rfl HSz.out ?_))
        go_roundw
        case rel => exact ⟨sv3, n3, P3, K3, Ks ++ [x], by simp, by simp; exact HLt.out, HP6.out, HR6.out⟩
        case measure => simp [intOf]; have := HLt.out; omega
    · obtain rfl : Ks.length = len := by omega
      have l2 : ¬ (Ks.length : Int) < (Ks.length : Int) := by omega
      have HP := hide hP.turn
      have HRw := hide hR
      clear hP hR hk hlt HP1 HO
      go_wp2_with fail
      go_loopw [9] (fun kv wr2 => ∃ (sv : Value) (P : Nat → List UInt8) (K : Nat) (F : List Nat) (j : Nat), kv = .int .i64 (j : Int) ∧ j ≤ Ks.length ∧ P2 sv w wr2 t pm w1.heap.size n P K pl Ks F j ∧ RwS wr2 w1.heap.size (.slice p5 Ks.length k5) Ks) (fun kv _ => Ks.length - (intOf kv).toNat)
      case atStart => exact ⟨_, _, _, _, 0, rfl, by omega, HP.out, HRw.out⟩
      case round =>
        obtain ⟨sv2, P2', K2, F2, j, rfl, hj, hP2, hR2⟩ := hrel
        by_cases hlt : j < Ks.length
        · obtain ⟨x, hx⟩ : ∃ x, Ks[j]? = some x := ⟨_, List.getElem?_eq_getElem hlt⟩
          have l3 : (j : Int) < (Ks.length : Int) := by omega
          have l5 : (0 : Int) ≤ (j : Int) := by omega
          obtain ⟨b, o, rfl, hc⟩ := HPg.out (by omega)
          obtain ⟨hc1, hB, hS⟩ := hc _ hlt
          have HPay := hide (fun V => payload_e V (D j) (N j) (B j) hB (S j) hS)
          have e : plB (N j) (B j) (S j) = pl (j) := by rw [HPl.out]
          rw [e] at HPay
          have HR0 := hide (fun V (hV : Below w.heap.size w V) j' v (hj : (opA (D j) (N j) (B j) (S j)).toList[j']? = some v) => cell_later hV (hc1 j' v hj))
          have HSz := hide (opSize (D j) (N j) (B j) (S j))
          clear hc hc1 hB hS e
          generalize D j = dd at HPay HR0 HSz
          generalize N j = nn at HPay HR0 HSz
          generalize B j = bb at HPay HR0 HSz
          generalize S j = ss at HPay HR0 HSz
          unfold opA at HPay HR0 HSz
          have HP2 := hide hP2
          have HR2 := hide hR2
          have HLt : Hid (j + 1 ≤ Ks.length) := hlt
          have hwk : IntKind.i64.wrap ((j : Int) + 1) = ((j + 1 : Nat) : Int) := by rw [IntKind.wrap_i64]; have := HLn.out; omega
          by_cases h4 : (pl j).size ≤ 4000
          · have l4 : ¬ (4000 : Int) < ((pl j).size : Int) := by omega
            obtain ⟨g, rfl, _⟩ := rw_cell hR2 hx
            have HCs := hide (fun V (hV : RwS V w1.heap.size (.slice (some ⟨g, 0, none⟩) Ks.length k5) Ks) => (show V.cell? ⟨g, j, none⟩ = some (.string x.st) from (let ⟨g', e', c'⟩ := rw_cell hV hx; by cases e'; exact c')))
            have HGt := hide (fun V (hV : P2 sv2 w V t pm w1.heap.size n P2' K2 pl Ks F2 j) => get_kd hV hx h4)
            have HDp := hide (fun V (hV : P2 sv2 w V t pm w1.heap.size n P2' K2 pl Ks F2 j) => drop_kp hV hx h4 HLn.out (by have := HLn.out; have := HLt.out; omega))
            have HNx := hide (fun V V' (hV : P2 sv2 w V t pm w1.heap.size n P2' K2 pl Ks F2 j) hd => hV.drop (w' := V') hx hd)
            clear hP2 hR2 h4 hx
            go_wp2_with (first
              | (go_at_call 9; (with_reducible refine Calls.mono (HDp.out _ HP4.out) ?_); rintro e w5 ⟨rfl, hd⟩; obtain ⟨⟨sv5, P5, K5, hP5⟩, hk5⟩ := HNx.out _ _ HP4.out hd; have HP5 := hide hP5; have HR5 := hide (HR4.out.keep hk5); clear hd hP5 hk5)
              | (go_at_call 11; (with_reducible refine Calls.mono (HPay.out _) ?_); rintro e w4 ⟨rfl, hb⟩; have HP4 := hide (HP3.out.later hb); have HR4 := hide (HR3.out.later hb); have c4 := HCs.out _ HR4.out; clear hb)
              | (go_at_call 11; (with_reducible refine Calls.mono (HPay.out _) ?_); rintro e w2 ⟨rfl, hb⟩; have HPa := hide (HP2.out.later hb); have HRa := hide (HR2.out.later hb); have c2 := HCs.out _ HRa.out; clear hb)
              | (go_at_call 19; (with_reducible refine Calls.mono (HGt.out _ HPa.out) ?_); rintro e w3 ⟨rfl, hb⟩; have HP3 := hide (HPa.out.later hb); have HR3 := hide (HRa.out.later hb); have q0 : w3.cell? ⟨b, o + j * 4, none⟩ = some (.bool dd) := HR0.out w3 HP3.out.bel 0 _ rfl; have q1 : w3.cell? ⟨b, o + j * 4 + 1, none⟩ = some (.int .i64 nn) := HR0.out w3 HP3.out.bel 1 _ rfl; have q2 : w3.cell? ⟨b, o + j * 4 + 2, none⟩ = some (.int .u8 (bb : Int)) := HR0.out w3 HP3.out.bel 2 _ rfl; have q3 : w3.cell? ⟨b, o + j * 4 + 3, none⟩ = some (.string ss) := HR0.out w3 HP3.out.bel 3 _ rfl; clear hb)
              | ((with_reducible refine atLd 34 ?_); refine wpList_load_mid rfl 34 _ rfl b (o + j * 4) (by rfl) [.bool dd, .int .i64 nn, .int .u8 (bb : Int), .string ss] _ (HR0.out _ HP3.out.bel) Tryz.underlying34 rfl HSz.out ?_)
              | ((with_reducible refine atLd 34 ?_); refine wpList_load_mid rfl 34 _ rfl b (o + j * 4) (by rfl) [.bool dd, .int .i64 nn, .int .u8 (bb : Int), .string ss] _ (HR0.out _ HP2.out.bel) Tryz.underlying34 rfl HSz.out ?_))
            go_roundw
            case rel => exact ⟨sv5, P5, K5, x.G ++ F2, j + 1, by simp, HLt.out, HP5.out, HR5.out⟩
            case measure => simp [intOf]; have := HLt.out; omega
          · have l4 : (4000 : Int) < ((pl j).size : Int) := by omega
            have HSk := hide (hP2.skip hx (by omega))
            clear hP2 hR2 h4 hx
            go_wp2_with (first
              | (go_at_call 11; (with_reducible refine Calls.mono (HPay.out _) ?_); rintro e w2 ⟨rfl, hb⟩; have HPa := hide (HSk.out.later hb); have HRa := hide (HR2.out.later hb); clear hb)
              | ((with_reducible refine atLd 34 ?_); refine wpList_load_mid rfl 34 _ rfl b (o + j * 4) (by rfl) [.bool dd, .int .i64 nn, .int .u8 (bb : Int), .string ss] _ (HR0.out _ HP2.out.bel) Tryz.underlying34 rfl HSz.out ?_))
            go_roundw
            case rel => exact ⟨sv2, P2', K2, F2, j + 1, by simp, HLt.out, HPa.out, HRa.out⟩
            case measure => simp [intOf]; have := HLt.out; omega
        · obtain rfl : j = Ks.length := by omega
          obtain ⟨hFl, hFr⟩ := free_kd hP2
          have HFr := hide hFr
          have HCt := hide (fun V (hb : Below wr.heap.size wr V) => count_e V t pm n (hP2.later hb).sp.ld.tr)
          have HB := hide hP2.bel
          have hw1 : IntKind.i64.wrap ((n : Int) - 1) = (F2.length : Int) := by have := hP2.sp.ld.tr.few; rw [IntKind.wrap_i64]; omega
          clear hP2 hR2 hFr hFl hlt hj
          generalize F2.length = fl at *
          go_wp2_with (first
            | (go_at_call 17; (with_reducible refine Calls.mono HFr.out ?_); rintro e w5 ⟨p9, c9, rfl, hb⟩; have HB5 := hide hb; clear hb)
            | (go_at_call 18; (with_reducible refine Calls.mono (HCt.out _ HB5.out) ?_); rintro e w6 ⟨rfl, hb⟩; have HB6 := hide (below_trans HB5.out hb); clear hb)
            | (go_at_call 7; (with_reducible refine Calls.mono (HAw.out _) ?_); rintro e w7 ⟨rfl, hb⟩; have HB7 := hide (below_trans HB.out (below_trans HB6.out hb)); clear hb))
          go_ret
          exact ⟨rfl, HB7.out⟩
end Go.Proofs.YthgclfhfipfknaaGreat
