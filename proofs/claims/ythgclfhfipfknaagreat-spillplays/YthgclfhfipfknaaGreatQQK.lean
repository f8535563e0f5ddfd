/- The walk of SpillPlays. -/
/- Rows of steps that came in as an argument; SpillBack's row, lifted. -/
/- SpillPlays' row, lifted. -/
/- Proved here: for every list of steps the Go function bureaulaw11.SpillPlays returns true, whatever is in memory: a first page with payloads put in and taken out answers after each step as the document's first page does (the same pages free, the same payloads told), and the last Free and Count agree. No condition (beyond 40 steps the law asks only its fixed answers). -/
import Derived.Test.YthgclfhfipfknaaGreatQQI
import Derived.Test.YthgclfhfipfknaaGreatPPS
import Derived.Test.YthgclfhfipfknaaGreatRWA
import Derived.Carry
import Derived.ShutString
import Derived.ChangeOld
namespace Go.Proofs.YthgclfhfipfknaaGreat
open Go.ChangeShapes Go.WideShapes Go.ChangeAt Go.RowKit Go.Maps
set_option linter.unusedVariables false

set_option maxRecDepth 20000 in
set_option maxHeartbeats 8000000 in
theorem plays_core (w : World) (p : Option Addr) (len cap : Nat) (D : Nat → Bool) (N : Nat → Int) (B : Nat → Nat) (S : Nat → ByteArray) (hp : OpR w p len D N B S) (hlen : len ≤ 40) :
    Calls Tryz.prog 3 #[.slice p len cap] w fun e w' => e = .returned (.bool true) ∧ Below w.heap.size w w' := by
  have HAw := hide (fun V => pawake_e V)
  have l1 : ¬ (40 : Int) < (len : Int) := by omega
  have HO := hide (plopen_l w)
  have HPg := hide hp
  have HLn := hide hlen
  have HSi := hide (infoSp true 1 (.slice none 0 0) zN)
  have HSo := hide (sp_one true 1 none 0 0 zN)
  clear hp hlen
  go_enter Tryz.func3, Tryz.ntmps3
  go_wp2_with (first
    | (go_at_call 8; (with_reducible refine Calls.mono HO.out ?_); rintro e w1 ⟨t, rfl, pm, h1, h2, h3, h4⟩; have HP1 := hide (pt_start h1 h2 h3 h4); clear h1 h2 h3 h4)
    | ((with_reducible refine atSt 31 ?_); refine wp_storeB (c := (spL true 1 (.slice none 0 0) zN).toArray) (z := (spL false 0 (.slice none 0 0) zN).toArray) HSi.out rfl HSo.out (zSpB w1) _ _ (by rfl) (by rfl) (by rfl) (by rfl) ?_; intro W2 hb2 ho2; have HS2 := hide (show SpB W2 w1.heap.size true 1 (.slice none 0 0) zN from hb2); have HB2 := hide (show Below w1.heap.size w1 W2 from below_only1 (below_alloc w1 _) ho2 (Nat.le_refl _)); clear hb2 ho2))
  obtain ⟨b, hb⟩ : ∃ b, b = w1.heap.size := ⟨_, rfl⟩
  rw [← hb] at HS2 ⊢
  have HSt : Hid (St w W2 t pm w1.heap.size b 0 (.slice none 0 0)) := hide ⟨_, _, _, _, _, [], none, 0, HP1.out.later HB2.out, pb_start HS2.out, ⟨World.ownsRow_nil _ _ _ _, by simp⟩, by simp, by simp⟩
  have HBb : Hid (w.heap.size ≤ b) := hide (by rw [hb]; exact HP1.out.bs.2.2.1)
  clear HS2 HB2 HP1 HO HSi HSo hb
  go_loopw [6, 7] (fun v6 kv wr => ∃ k : Nat, kv = .int .i64 (k : Int) ∧ k ≤ len ∧ St w wr t pm w1.heap.size b k v6) (fun _ kv _ => len - (intOf kv).toNat)
  case atStart => exact ⟨0, rfl, by omega, HSt.out⟩
  case round =>
    obtain ⟨k, rfl, hk, sv, n, P, K, F, Ks, pF, cF, hT, hB, hR, hKl, hFl⟩ := hrel
    obtain ⟨p6, c6, rfl⟩ := own_form hR.row
    by_cases hlt : k < len
    · have l2 : (k : Int) < (len : Int) := by omega
      have l3 : (0 : Int) ≤ (k : Int) := by omega
      obtain ⟨bo, o, rfl, hc⟩ := HPg.out (by omega)
      obtain ⟨hc1, hB, hS⟩ := hc _ hlt
      have HPay := hide (fun V => payload_e V (D k) (N k) (B k) hB (S k) (by omega))
      have HR0 := hide (fun V (hV : Below w.heap.size w V) j' v (hj : (opA (D k) (N k) (B k) (S k)).toList[j']? = some v) => cell_later hV (hc1 j' v hj))
      have HSz := hide (opSize (D k) (N k) (B k) (S k))
      have HSs := hide hS
      clear hc hc1 hB hS
      generalize D k = dd at HPay HR0 HSz
      generalize N k = nn at HPay HR0 HSz
      generalize B k = bb at HPay HR0 HSz
      generalize S k = ss at HPay HR0 HSz HSs
      generalize hpl : plB nn bb ss = pl at HPay
      clear hpl
      unfold opA at HPay HR0 HSz
      have hwk : IntKind.i64.wrap ((k : Int) + 1) = ((k + 1 : Nat) : Int) := by rw [IntKind.wrap_i64]; have := HLn.out; omega
      have HT := hide hT
      have HBm := hide hB
      have HRm := hide hR
      have HLt : Hid (k + 1 ≤ len) := hlt
      have HKl := hide (And.intro hKl hFl)
      have HOi := hide (opI dd nn bb ss)
      have HOo := hide (op_one dd nn bb ss)
      clear hT hB hR hk HSt hFl hKl
      by_cases hdr : dd = true ∧ 0 < Ks.length
      · obtain ⟨rfl, h0⟩ := hdr
        obtain ⟨g6, rfl⟩ := HRm.out.ptr h0
        obtain ⟨i, hi⟩ : ∃ i, mN nn % Ks.length = i := ⟨_, rfl⟩
        have hil : i < Ks.length := by rw [← hi]; exact Nat.mod_lt _ h0
        obtain ⟨kt, hkt⟩ : ∃ kt, Ks[i]? = some kt := ⟨_, List.getElem?_eq_getElem hil⟩
        have hl1 : Ks.length - 1 < Ks.length := by omega
        obtain ⟨lk, hlk⟩ : ∃ lk, Ks[Ks.length - 1]? = some lk := ⟨_, List.getElem?_eq_getElem hl1⟩
        have i1 : (i : Int) < (Ks.length : Int) := by omega
        have i0 : (0 : Int) ≤ (i : Int) := by omega
        clear hl1
        have hand := and4095 nn
        have l6 : (0 : Int) < (Ks.length : Int) := by omega
        have l7 : ((Ks.length : Int) == 0) = false := by rw [beq_eq_false_iff_ne]; omega
        have hm4 := mN_le nn
        have hmod : ((mN nn : Nat) : Int) % (Ks.length : Int) = (i : Int) := by rw [← Int.natCast_emod, hi]
        have HI := hide (And.intro hil (And.intro hkt hlk))
        clear hil hkt hlk hi hm4 h0
        go_wp2_with (first
          | ((with_reducible refine atLd 34 ?_); refine wpList_load_mid rfl 34 _ rfl bo (o + k * 4) (by rfl) [.bool true, .int .i64 nn, .int .u8 (bb : Int), .string ss] _ (HR0.out _ HT.out.bel) Tryz.underlying34 rfl HSz.out ?_)
          | ((with_reducible refine atSt 34 ?_); refine wp_storeB (c := #[.bool true, .int .i64 nn, .int .u8 (bb : Int), .string ss]) (z := #[.bool false, .int .i64 0, .int .u8 0, .string ⟨#[]⟩]) HOi.out rfl HOo.out (Blk.new wr #[.bool false, .int .i64 0, .int .u8 0, .string ⟨#[]⟩] 34) _ _ (by rfl) (by rfl) (by rfl) (by rfl) ?_; intro W3 hb3 ho3; have x0 : W3.cell? ⟨wr.heap.size, 0, none⟩ = some (.bool true) := hb3.cell 0; have x1 : W3.cell? ⟨wr.heap.size, 1, none⟩ = some (.int .i64 nn) := hb3.cell 1; have HX3 := hide hb3; have HB3 := hide (show Below wr.heap.size wr W3 from below_only1 (below_alloc wr _) ho3 (Nat.le_refl _)); clear hb3 ho3))
        have hr3 := HRm.out.later HB3.out
        have HC3 := hide (show W3.drew.cell? ⟨g6, i * 3, none⟩ = some (.string kt.x.st) ∧ W3.drew.cell? ⟨wr.heap.size, 3, none⟩ = some (.string ss) from ⟨hr3.at HI.out.2.1 0 (by omega), HX3.out.cell 3⟩)
        have hT3 := (HT.out.later HB3.out).later (below_drew W3)
        have hmem : kt ∈ Ks := List.mem_of_getElem? HI.out.2.1
        have HDp := hide (drop_pt hT3 hmem ss HSs.out (by have := HLt.out; have := HLn.out; omega))
        have HNx := hide (fun w' hd => hT3.drop (w' := w') (cut_perm HI.out.2.1 HI.out.2.2) hd)
        have hcat : ∀ V, (Op.stringOp BinOp.add kt.x.st ss).run Tryz.prog V = .ok (.string (kt.x.st ++ ss)) V := fun V => run_string_add_sum V _ _ (by have := (hT3.found hmem ss).2.2.2.2; have := HSs.out; omega)
        have hgl : kt.x.G.length ≤ 17 := (hT3.kp kt hmem).1.gl
        have HGb := hide (fun x (hx : x ∈ kt.x.G) => hT3.bd x (List.mem_flatMap.2 ⟨kt, hmem, hx⟩))
        have HB3d := hide ((HBm.out.later HB3.out).later (below_drew W3))
        have HR3d := hide (hr3.later (below_drew W3))
        have HX3d := hide (HX3.out.later (below_drew W3))
        clear hr3 hT3 hmem x0 x1 HX3 hmod hand l7
        go_region_held3 (fun V => V.cell? ⟨g6, i * 3, none⟩ = some (.string kt.x.st) ∧ V.cell? ⟨wr.heap.size, 3, none⟩ = some (.string ss)) (first | exact HC3.out | exact HC4.out) (first
          | (go_at_call 9; (with_reducible refine Calls.mono HDp.out ?_); rintro e w4 ⟨rfl, hd⟩; obtain ⟨sv4, P4, K4, hP4, hk4⟩ := HNx.out _ hd; have HT4 := hide hP4; have HB4 := hide (HB3d.out.kb hk4); have HR4 := hide (HR3d.out.kb hk4); have HC4 := hide (show w4.cell? ⟨g6, i * 3, none⟩ = some (.string kt.x.st) ∧ w4.cell? ⟨wr.heap.size, 3, none⟩ = some (.string ss) from ⟨HR4.out.at HI.out.2.1 0 (by omega), Blk.cell (hk4.kp _ _ _ HX3d.out (by decide) (by decide) (by decide)) 3⟩); clear hd hP4 hk4))
        all_goals
          have r2 : w4.cell? ⟨g6, i * 3 + 2, none⟩ = some (.slice kt.pp kt.x.G.length kt.kp) := HR4.out.at HI.out.2.1 2 (by omega)
          have hw1 : IntKind.i64.wrap ((kt.x.G.length : Int) - 1) = (kt.x.G.length : Int) - 1 := by rw [IntKind.wrap_i64]; omega
          go_wp2_with fail
          go_loopw [10] (fun jv wq => ∃ j pF cF, jv = .int .i64 ((j : Nat) - 1 : Int) ∧ j ≤ kt.x.G.length ∧ Only [b] w4 wq ∧ PB wq b n (kt.x.G.drop j ++ F) pF cF) (fun jv _ => (intOf jv + 1).toNat)
          case atStart => exact ⟨kt.x.G.length, _, _, rfl, by omega, Only.refl _ _, by rw [List.drop_length, List.nil_append]; exact HB4.out⟩
          case round =>
            obtain ⟨j, pq, cq, rfl, hj, hoq, hBq⟩ := hrel
            cases j with
            | zero =>
              have j9 : ¬ (0 : Int) ≤ ((0 : Nat) : Int) - 1 := by omega
              rw [List.drop_zero] at hBq
              have hXb : ∀ q ∈ [b], ∃ c ty, Blk w4 q c ty ∧ ty ≠ 38 ∧ ty ≠ 3 := fun q hq => by have e : q = b := (by simpa using hq); subst e; exact ⟨_, _, HB4.out.sB, by decide, by decide⟩
              have hTq := HT4.out.only hoq (fun q hq => by have e : q = b := (by simpa using hq); subst e; exact ⟨HBb.out, _, _, HB4.out.sB, by unfold Ot; decide, by decide⟩)
              have hRq := HR4.out.only hoq hXb
              have HLc := hide (show ∀ c, c < 3 → wr.cell? ⟨g6, (Ks.length - 1) * 3 + c, none⟩ = (ktL lk)[c]? from fun c hc => hRq.at HI.out.2.2 c hc)
              have hcut := hRq.cut rfl HI.out.2.1 HI.out.2.2
              obtain ⟨cg, hcg, hgb⟩ := hRq.frz (by have := HI.out.1; omega)
              have hbs := hTq.bs
              have hT6 := hTq.only hcut.2.2 (fun q hq => by have e : q = g6 := (by simpa using hq); subst e; exact ⟨by omega, _, _, hcg, by unfold Ot; decide, by decide⟩)
              have hB6 := hBq.only hcut.2.2 (fun q hq => by have e : q = g6 := (by simpa using hq); subst e; exact ⟨_, _, hcg, by decide, by decide⟩)
              have HFin := hide (show St w (wr.setCells g6 (i * 3) (ktL lk)) t pm w1.heap.size b (k + 1) (.slice (some ⟨g6, 0, none⟩) (Ks.length - 1) c6) from ⟨sv4, n, P4, K4, kt.x.G ++ F, cutK Ks i lk, pq, cq, hT6, hB6, hcut.2.1, by rw [cutK_len]; have := HKl.out; omega, by rw [List.length_append]; have := HKl.out; omega⟩)
              have HTh := hide hcut.1
              have hcap : (Ks.length : Int) ≤ (c6 : Int) := by
                rcases hRq.row.2 with ⟨e, h0⟩ | ⟨g', cap', cur, e, _, _, hn, _⟩
                · have := HI.out.1; omega
                · injection e with e1 e2 e3; omega
              have hwl : IntKind.i64.wrap ((Ks.length : Int) - 1) = ((Ks.length - 1 : Nat) : Int) := by have := HI.out.1; have := HKl.out; have := HLt.out; have := HLn.out; rw [IntKind.wrap_i64]; omega
              have k1 : ((Ks.length - 1 : Nat) : Int) < (Ks.length : Int) := by have := HI.out.1; omega
              have k2 : (0 : Int) ≤ ((Ks.length - 1 : Nat) : Int) := by omega
              have k3 : ((Ks.length - 1 : Nat) : Int) ≤ (c6 : Int) := by omega
              have HRng := hide (show wr.rangeAt g6 ((Ks.length - 1) * 3) (ktL lk) from fun c v hv => by rw [HLc.out c (by have := (List.getElem?_eq_some_iff.1 hv).1; rw [ktL_len] at this; exact this)]; exact hv)
              have HKi := hide (show (Tryz.prog.info? 38).map (·.size) = some (ktL lk).length from (by show _ = some 3; kernel_rfl))
              have HKo := hide (all_oneCell_toArray (ktL_one lk))
              clear hTq hRq hcut hT6 hB6 hBq hoq hbs hgb hcg hXb
              go_wp2_with (first
                | ((with_reducible refine atLd 38 ?_); refine wpList_load_mid rfl 38 _ rfl g6 ((Ks.length - 1) * 3) (by rfl) (ktL lk) _ HRng.out Tryz.underlying38 rfl HKi.out ?_)
                | ((with_reducible refine atSt 38 ?_); refine wpList_store_mid rfl 38 _ _ rfl g6 (i * 3) (ktL lk).toArray (by rfl) (by rfl) HTh.out HKi.out HKo.out ?_))
              exact ⟨⟨k + 1, by simp, HLt.out, HFin.out⟩, by simp [intOf]; have := HLt.out; omega⟩
            | succ j =>
            rw [show (((j + 1 : Nat) : Int) - 1) = (j : Int) by omega]
            obtain ⟨x, hx⟩ : ∃ x, kt.x.G[j]? = some x := ⟨_, List.getElem?_eq_getElem hj⟩
            have hdp : kt.x.G.drop j = x :: kt.x.G.drop (j + 1) := by
              obtain ⟨h1, rfl⟩ := List.getElem?_eq_some_iff.1 hx
              exact List.drop_eq_getElem_cons h1
            have hLl : (kt.x.G.drop (j + 1) ++ F).length ≤ 5000 := by rw [List.length_append, List.length_drop]; have := HKl.out; have := HLt.out; have := HLn.out; omega
            obtain ⟨x2, xn⟩ := HGb.out x (List.mem_of_getElem? hx)
            have HDr : Hid (kt.x.G.drop j ++ F = x :: (kt.x.G.drop (j + 1) ++ F)) := hide (by rw [hdp]; rfl)
            obtain ⟨bp, op, hpp, _, hcc⟩ := (HR4.out.frs kt (List.mem_of_getElem? HI.out.2.1)).2.2 (by omega)
            have hnB : b ∉ ([] : List Nat) := by simp
            have rX : wr.cell? ⟨g6, i * 3 + 2, none⟩ = some (.slice (some ⟨bp, op, none⟩) kt.x.G.length kt.kp) := by
              have hr := HR4.out.only hoq (fun q hq => by have e : q = b := (by simpa using hq); subst e; exact ⟨_, _, HB4.out.sB, by decide, by decide⟩)
              rw [← hpp]
              exact hr.at HI.out.2.1 2 (by omega)
            have cX : wr.cell? ⟨bp, op + j, none⟩ = some (.int .i64 (x : Int)) := by
              have hf := (HR4.out.frs kt (List.mem_of_getElem? HI.out.2.1)).only hoq (fun q hq c hc => by have e : q = b := (by simpa using hq); subst e; exact blk_ne hc HB4.out.sB (by decide) rfl)
              obtain ⟨b', o', e', _, hc'⟩ := hf.2.2 (by omega)
              rw [hpp] at e'
              injection e' with e'
              injection e' with e1 e2
              subst e1 e2
              exact hc' j x hx
            have nG : g6 ≠ b := by
              obtain ⟨c, hc, _⟩ := HR4.out.frz (by have := HI.out.1; omega)
              exact blk_ne hc HB4.out.sB (by decide)
            have nP : bp ≠ b := by
              obtain ⟨c, hc⟩ : ∃ c, Blk w4 bp c 3 := by
                obtain ⟨b', o', e', hc', _⟩ := (HR4.out.frs kt (List.mem_of_getElem? HI.out.2.1)).2.2 (by omega)
                have e2 : b' = bp := by rw [hpp] at e'; cases e'; rfl
                subst e2
                exact hc'
              exact blk_ne hc HB4.out.sB (by decide)
            have HLs := hide (show ∀ V V', V.cell? ⟨g6, i * 3 + 2, none⟩ = some (.slice (some ⟨bp, op, none⟩) kt.x.G.length kt.kp) ∧ V.cell? ⟨bp, op + j, none⟩ = some (.int .i64 (x : Int)) → Only [b] V V' → V'.cell? ⟨g6, i * 3 + 2, none⟩ = some (.slice (some ⟨bp, op, none⟩) kt.x.G.length kt.kp) ∧ V'.cell? ⟨bp, op + j, none⟩ = some (.int .i64 (x : Int)) from fun V V' hV ho => ⟨only_cell ho hV.1 (by simpa using nG), only_cell ho hV.2 (by simpa using nP)⟩)
            generalize kt.x.G.drop (j + 1) ++ F = L at hBq HDr hLl
            have HGv := hide (fun V (hV : FrP V pq cq L) => rgive_ok V n x pq cq L zN hV hLl x2 xn)
            have HSq := hide (show Blk wr.drew b (spL true (n : Int) (.slice pq L.length cq) zN).toArray 31 from hBq.sB)
            have HFq := hide (hBq.fr.later (below_drew wr))
            have HSI := hide (infoSp true (n : Int) (.slice pq L.length cq) zN)
            have HCq := hide (show wr.drew.cell? ⟨g6, i * 3 + 2, none⟩ = some (.slice (some ⟨bp, op, none⟩) kt.x.G.length kt.kp) ∧ wr.drew.cell? ⟨bp, op + j, none⟩ = some (.int .i64 (x : Int)) from ⟨rX, cX⟩)
            have HOq := hide (hoq.then_below (below_drew wr))
            have HJ := hide hj
            have j0 : (0 : Int) ≤ (j : Int) := by omega
            have j1 : (j : Int) < (kt.x.G.length : Int) := by omega
            clear hx hdp hpp hcc hnB rX cX nG nP hBq hoq hj x2 xn hLl
            go_upto_region 0 with fail
            refine wp_region_held_drew (S := fun V => V.cell? ⟨g6, i * 3 + 2, none⟩ = some (.slice (some ⟨bp, op, none⟩) kt.x.G.length kt.kp) ∧ V.cell? ⟨bp, op + j, none⟩ = some (.int .i64 (x : Int))) (by kernel_rfl) HCq.out (fun hHeld => ?_)
            refine wpAnyH_take (i := 1) (oi := { dst := some 81, op := Op.move (Operand.tmp 6), type := 32, pos := "law.go:84", after := #[], guard := none }) (v := .slice (some ⟨g6, 0, none⟩) Ks.length c6) rfl (by kernel_rfl) (by kernel_rfl) (by kernel_rfl) (fun _ _ _ h => h) (Or.inl ⟨by rfl, fun V hV => by (try dsimp only at hV); go_simp⟩) hHeld ?_
            try simp only [Act.put, List.setIfInBounds_toArray, List.set_cons_zero, List.set_cons_succ]
            refine wpAnyH_take (i := 2) (oi := { dst := some 82, op := Op.move (Operand.tmp 9), type := 3, pos := "law.go:84", after := #[], guard := none }) (v := .int .i64 (i : Int)) rfl (by kernel_rfl) (by kernel_rfl) (by kernel_rfl) (fun _ _ _ h => h) (Or.inl ⟨by rfl, fun V hV => by (try dsimp only at hV); go_simp⟩) hHeld ?_
            try simp only [Act.put, List.setIfInBounds_toArray, List.set_cons_zero, List.set_cons_succ]
            refine wpAnyH_take (i := 3) (oi := { dst := some 83, op := Op.indexAddr 32 (Operand.tmp 81) (Operand.tmp 82), type := 0, pos := "law.go:84", after := #[{ on := 1, ground := Ground.data }, { on := 2, ground := Ground.data }], guard := none }) (v := .pointer (some ⟨g6, i * 3, none⟩)) rfl (by kernel_rfl) (by kernel_rfl) (by kernel_rfl) (fun _ _ _ h => h) (Or.inl ⟨by rfl, fun V hV => by (try dsimp only at hV); go_simp⟩) hHeld ?_
            try simp only [Act.put, List.setIfInBounds_toArray, List.set_cons_zero, List.set_cons_succ]
            refine wpAnyH_take (i := 4) (oi := { dst := some 84, op := Op.fieldAddr 38 (Operand.tmp 83) 2, type := 0, pos := "law.go:84", after := #[{ on := 3, ground := Ground.data }], guard := none }) (v := .pointer (some ⟨g6, i * 3 + 2, none⟩)) rfl (by kernel_rfl) (by kernel_rfl) (by kernel_rfl) (fun _ _ _ h => h) (Or.inl ⟨by rfl, fun V hV => by (try dsimp only at hV); go_simp⟩) hHeld ?_
            try simp only [Act.put, List.setIfInBounds_toArray, List.set_cons_zero, List.set_cons_succ]
            refine wpAnyH_take (i := 5) (oi := { dst := some 85, op := Op.load 27 (Operand.tmp 84), type := 27, pos := "law.go:84", after := #[{ on := 4, ground := Ground.data }], guard := none }) (v := .slice (some ⟨bp, op, none⟩) kt.x.G.length kt.kp) rfl (by kernel_rfl) (by kernel_rfl) (by kernel_rfl) (fun _ _ _ h => h) (Or.inl ⟨by rfl, fun V hV => by have := hV.1; go_simp⟩) hHeld ?_
            try simp only [Act.put, List.setIfInBounds_toArray, List.set_cons_zero, List.set_cons_succ]
            refine wpAnyH_take (i := 6) (oi := { dst := some 86, op := Op.move (Operand.tmp 10), type := 3, pos := "law.go:84", after := #[], guard := none }) (v := .int .i64 (j : Int)) rfl (by kernel_rfl) (by kernel_rfl) (by kernel_rfl) (fun _ _ _ h => h) (Or.inl ⟨by rfl, fun V hV => by (try dsimp only at hV); go_simp⟩) hHeld ?_
            try simp only [Act.put, List.setIfInBounds_toArray, List.set_cons_zero, List.set_cons_succ]
            refine wpAnyH_take (i := 7) (oi := { dst := some 87, op := Op.indexAddr 27 (Operand.tmp 85) (Operand.tmp 86), type := 0, pos := "law.go:84", after := #[{ on := 5, ground := Ground.data }, { on := 6, ground := Ground.data }], guard := none }) (v := .pointer (some ⟨bp, op + j, none⟩)) rfl (by kernel_rfl) (by kernel_rfl) (by kernel_rfl) (fun _ _ _ h => h) (Or.inl ⟨by rfl, fun V hV => by (try dsimp only at hV); go_simp⟩) hHeld ?_
            try simp only [Act.put, List.setIfInBounds_toArray, List.set_cons_zero, List.set_cons_succ]
            refine wpAnyH_take (i := 8) (oi := { dst := some 88, op := Op.load 3 (Operand.tmp 87), type := 3, pos := "law.go:84", after := #[{ on := 7, ground := Ground.data }], guard := none }) (v := .int .i64 (x : Int)) rfl (by kernel_rfl) (by kernel_rfl) (by kernel_rfl) (fun _ _ _ h => h) (Or.inl ⟨by rfl, fun V hV => by have := hV.2; go_simp⟩) hHeld ?_
            try simp only [Act.put, List.setIfInBounds_toArray, List.set_cons_zero, List.set_cons_succ]
            refine wpAnyH_ready (rs := [0]) (by kernel_rfl) (by simp) ?_
            refine AllReadyH.cons rfl (fun KK hKK => ?_) AllReadyH.nil
            refine step_loadB (c := (spL true (n : Int) (.slice pq L.length cq) zN).toArray) HSI.out uSp HSq.out _ (by rfl) (by rfl) (by rfl) ?_
            refine hKK.out _ _ HCq.out (fun hHeld => ?_)
            clear hKK KK
            try simp only [Act.put, List.setIfInBounds_toArray]
            refine wpAnyH_ready (rs := [9]) (by kernel_rfl) (by simp) ?_
            refine AllReadyH.cons rfl (fun KK hKK => ?_) AllReadyH.nil
            go_simp
            (go_at_call 10; (with_reducible refine Calls.mono (HGv.out _ HFq.out) ?_); rintro e' w5 ⟨p5, k5, rfl, hg⟩; have HF5 := hide hg.fr; have HS5 := hide (Blk.later HSq.out hg.bel); have HC5 := hide (And.intro (cell_later hg.bel HCq.out.1) (cell_later hg.bel HCq.out.2)); have HO5 := hide (HOq.out.then_below hg.bel); clear hg)
            go_wp2_with fail
            refine hKK.out _ _ HC5.out (fun hHeld => ?_)
            clear hKK KK
            try simp only [Act.put, List.setIfInBounds_toArray, List.set_cons_zero, List.set_cons_succ]
            refine wpAnyH_take (i := 10) (oi := { dst := some 79, op := Op.move (Operand.tmp 89), type := 39, pos := "law.go:84", after := #[{ on := 9, ground := Ground.data }], guard := none }) (v := .tuple #[.agg (spL true (n : Int) (.slice p5 (L.length + 1) k5) zN).toArray, .int .i64 0]) rfl (by kernel_rfl) (by kernel_rfl) (by kernel_rfl) (fun _ _ _ h => h) (Or.inl ⟨by rfl, fun V hV => by (try dsimp only at hV); go_simp⟩) hHeld ?_
            try simp only [Act.put, List.setIfInBounds_toArray, List.set_cons_zero, List.set_cons_succ]
            refine wpAnyH_take (i := 11) (oi := { dst := some 90, op := Op.extract (Operand.tmp 79) 0, type := 31, pos := "law.go:84", after := #[{ on := 10, ground := Ground.data }], guard := none }) (v := .agg (spL true (n : Int) (.slice p5 (L.length + 1) k5) zN).toArray) rfl (by kernel_rfl) (by kernel_rfl) (by kernel_rfl) (fun _ _ _ h => h) (Or.inl ⟨by rfl, fun V hV => by (try dsimp only at hV); go_simp⟩) hHeld ?_
            try simp only [Act.put, List.setIfInBounds_toArray, List.set_cons_zero, List.set_cons_succ]
            refine wpAnyH_take (i := 12) (oi := { dst := some 91, op := Op.extract (Operand.tmp 79) 1, type := 35, pos := "law.go:84", after := #[{ on := 10, ground := Ground.data }, { on := 13, ground := Ground.gcOnly Departure.lateStores }], guard := none }) (v := .int .i64 0) rfl (by kernel_rfl) (by kernel_rfl) (by kernel_rfl) (fun _ _ _ h => h) (Or.inl ⟨by rfl, fun V hV => by (try dsimp only at hV); go_simp⟩) hHeld ?_
            try simp only [Act.put, List.setIfInBounds_toArray, List.set_cons_zero, List.set_cons_succ]
            refine wpAnyH_ready (rs := [13]) (by kernel_rfl) (by simp) ?_
            refine AllReadyH.cons rfl (fun KK hKK => ?_) AllReadyH.nil
            refine step_storeB (c := (spL true (n : Int) (.slice p5 (L.length + 1) k5) zN).toArray) (z := (spL true (n : Int) (.slice pq L.length cq) zN).toArray) (infoSp true (n : Int) (.slice p5 (L.length + 1) k5) zN) rfl (sp_one true (n : Int) p5 (L.length + 1) k5 zN) HS5.out _ _ (by rfl) (by rfl) (by rfl) (by rfl) ?_
            intro W6 hb6 ho6
            have HB6 := hide (show PB W6 b n (x :: L) p5 k5 from ⟨hb6, HF5.out.only ho6 (fun q hq c hc => by have e : q = b := (by simpa using hq); subst e; exact blk_ne hc HS5.out (by decide) rfl)⟩)
            have HO6 := hide (HO5.out.trans ho6)
            refine hKK.out _ _ (HLs.out _ _ HC5.out ho6) (fun hHeld => ?_)
            clear hKK KK hb6 ho6
            try simp only [Act.put, List.setIfInBounds_toArray]
            refine wpAnyH_done (by kernel_rfl) ?_ _
            clear hHeld
            go_wp2_with fail
            refine ⟨⟨j, p5, k5, rfl, by have := HJ.out; omega, HO6.out, by rw [HDr.out]; exact HB6.out⟩, ?_⟩
            simp [intOf]
      · have hcs : (dd = false ∨ dd = true ∧ Ks.length = 0) := by
          cases dd with
          | false => exact .inl rfl
          | true => exact .inr ⟨rfl, by have : ¬ 0 < Ks.length := fun h => hdr ⟨rfl, h⟩; omega⟩
        have HPt := hide (fun V (hb : Below wr.heap.size wr V) => (have hPV := HT.out.later hb; have h3 := hPV.k3; have h17 := hPV.n17; have := HLn.out; have := HLt.out; put_v V w.heap.size t pm n w1.heap.size hPV.sp hPV.ss pl (by omega) (by omega) ⟨hPV.bs.1, hPV.bs.2.1, hPV.bs.2.2.1, hPV.bs.2.2.2⟩))
        clear hdr
        rcases hcs with rfl | ⟨rfl, h0⟩
        · skip
          by_cases h4 : pl.size ≤ 4000
          · have l4 : ¬ (4000 : Int) < (pl.size : Int) := by omega
            simp only [if_pos h4] at HPt
            have HGood := hide h4
            have HKz := hide (show (Tryz.prog.info? 38).map (·.size) = some (#[Value.string ⟨#[]⟩, .string pl, .slice none 0 0]).size from (by show _ = some 3; kernel_rfl))
            have HKo := hide (show (#[Value.string ⟨#[]⟩, .string pl, .slice none 0 0]).all (·.oneCell') = true from all_oneCell_toArray (cs := [Value.string ⟨#[]⟩, .string pl, .slice none 0 0]) (by intro v hv; simp at hv; rcases hv with rfl | rfl | rfl <;> rfl))
            clear h4
            go_wp2_with (first
            | ((with_reducible refine atLd 34 ?_); refine wpList_load_mid rfl 34 _ rfl bo (o + k * 4) (by rfl) [.bool false, .int .i64 nn, .int .u8 (bb : Int), .string ss] _ (HR0.out _ HT.out.bel) Tryz.underlying34 rfl HSz.out ?_)
            | ((with_reducible refine atSt 34 ?_); refine wp_storeB (c := #[.bool false, .int .i64 nn, .int .u8 (bb : Int), .string ss]) (z := #[.bool false, .int .i64 0, .int .u8 0, .string ⟨#[]⟩]) HOi.out rfl HOo.out (Blk.new wr #[.bool false, .int .i64 0, .int .u8 0, .string ⟨#[]⟩] 34) _ _ (by rfl) (by rfl) (by rfl) (by rfl) ?_; intro W3 hb3 ho3; have x0 : W3.cell? ⟨wr.heap.size, 0, none⟩ = some (.bool false) := hb3.cell 0; have HX3 := hide hb3; have HB3 := hide (show Below wr.heap.size wr W3 from below_only1 (below_alloc wr _) ho3 (Nat.le_refl _)); clear hb3 ho3)
            | ((with_reducible refine atLd 34 ?_); refine wp_loadB (c := #[.bool false, .int .i64 nn, .int .u8 (bb : Int), .string ss]) HOi.out ⟨_, Tryz.underlying34, rfl⟩ HX3.out _ (by rfl) (by rfl) (by rfl) ?_)
            | (go_at_call 11; (with_reducible refine Calls.mono (HPay.out _) ?_); rintro e w4 ⟨rfl, hb⟩; have HB4 := hide (below_trans HB3.out hb); clear hb)
            | (go_at_call 12; (with_reducible refine Calls.mono (HPt.out _ HB4.out) ?_); rintro e w5 ⟨xk, sv5, P5, K5, rfl, hpu⟩; have HB5 := hide ((HBm.out.later HB4.out).kb hpu.kb); have HR5 := hide ((HRm.out.later HB4.out).kb hpu.kb); have HTf := hide (fun pp kp => (HT.out.later HB4.out).put hpu HGood.out pp kp); have HPu := hide hpu; clear hpu)
            | ((with_reducible refine atSt 38 ?_); refine wp_storeB (c := #[.string ⟨#[]⟩, .string pl, .slice none 0 0]) (z := #[.string ⟨#[]⟩, .string ⟨#[]⟩, .slice none 0 0]) HKz.out rfl HKo.out (Blk.new w5 #[.string ⟨#[]⟩, .string ⟨#[]⟩, .slice none 0 0] 38) _ _ (by rfl) (by rfl) (by rfl) (by rfl) ?_; intro W6 hb6 ho6; have HTL := hide (tl_start HB5.out (show Below w5.heap.size w5 W6 from below_only1 (below_alloc w5 _) ho6 (Nat.le_refl _)) hb6); clear hb6 ho6)
            )
            have HM : Hid (pgN pl.size = xk.G.length) := hide (HPu.out.len HGood.out).symm
            have HPgs := hide (fun V => rpages_e V pl.size HGood.out)
            rw [HM.out] at HPgs
            have HM17 : Hid (xk.G.length ≤ 17 ∧ F.length ≤ 5000 ∧ n ≤ 1000) := hide ⟨HPu.out.kp.gl, by have := HKl.out; have := HLt.out; have := HLn.out; omega, by have := HT.out.n17; have := HLt.out; have := HLn.out; omega⟩
            go_loopw [15, 16] (fun fv jv wq => ∃ j pp cp pq cq, fv = .int .i64 (fst1 n F j) ∧ jv = .int .i64 ((j : Nat) : Int) ∧ j ≤ xk.G.length ∧ TL w5 wq b n F pl j j pp cp pq cq) (fun _ jv _ => xk.G.length - (intOf jv).toNat)
            case atStart => exact ⟨0, none, 0, _, _, rfl, rfl, by omega, HTL.out⟩
            case round =>
              obtain ⟨j, pp, cp, pq, cq, rfl, rfl, hj, hTL⟩ := hrel
              by_cases hlj : j < xk.G.length
              · have m1 : (j : Int) < (xk.G.length : Int) := by omega
                have m2 : IntKind.i64.wrap ((j : Int) + 1) = ((j + 1 : Nat) : Int) := by have := HM17.out; rw [IntKind.wrap_i64]; omega
                have m3 : (0 : Int) < ((j + 1 : Nat) : Int) := by omega
                have HJl : Hid (j + 1 ≤ xk.G.length) := hlj
                have HTk := hide (show Calls Tryz.prog 14 #[.agg (spL true ((n + (j - F.length) : Nat) : Int) (.slice pq (F.drop j).length cq) zN).toArray] wr fun e w' => ∃ p' c', e = .returned (.tuple #[.agg (spL true ((n + (j + 1 - F.length) : Nat) : Int) (.slice p' (F.drop (j + 1)).length c') zN).toArray, .int .i64 (tkAt n F j : Int), .int .i64 0]) ∧ (FrP w' p' c' (F.drop (j + 1)) ∧ (0 < (F.drop (j + 1)).length → ∃ bq o, p' = some ⟨bq, o, none⟩ ∧ bq < w5.heap.size)) ∧ Below wr.heap.size wr w' from by
                  have hh := rtake_g wr b (n + (j - F.length)) hTL.pq (by rw [List.length_drop]; have := HM17.out; omega) (fun _ => by have := HM17.out; omega)
                  rw [tkAt_shift, List.tail_drop, show n + (j - F.length) + (1 - (F.drop j).length) = n + (j + 1 - F.length) by rw [List.length_drop]; omega] at hh
                  exact hh)
                have HSp := hide (fun W7 W8 p' c' hb hf hl (hs : SpB W8 b true ((n + (j + 1 - F.length) : Nat) : Int) (.slice p' (F.drop (j + 1)).length c') zN) ho => hTL.space (W7 := W7) (W8 := W8) (p' := p') (c' := c') hb hf hl hs ho)
                have HSb := hide (show Blk wr b (spL true ((n + (j - F.length) : Nat) : Int) (.slice pq (F.drop j).length cq) zN).toArray 31 from hTL.pq.pb.sB)
                obtain ⟨na, hna⟩ : ∃ na, n + (j - F.length) = na := ⟨_, rfl⟩
                obtain ⟨la, hla⟩ : ∃ la, (F.drop j).length = la := ⟨_, rfl⟩
                obtain ⟨nb, hnb⟩ : ∃ nb, n + (j + 1 - F.length) = nb := ⟨_, rfl⟩
                obtain ⟨lb, hlb⟩ : ∃ lb, (F.drop (j + 1)).length = lb := ⟨_, rfl⟩
                rw [hna, hla, hnb, hlb] at HTk
                rw [hna, hla] at HSb
                rw [hnb, hlb] at HSp
                have HIa := hide (infoSp true (na : Int) (.slice pq la cq) zN)
                have HIb := hide (fun p' c' => infoSp true (nb : Int) (.slice p' lb c') zN)
                have HTL0 := hide hTL
                clear hTL hna hla hnb hlb hj hlj HTL
                go_wp2_with (first
                  | (go_at_call 13; (with_reducible refine Calls.mono (HPgs.out _) ?_); rintro e w6x ⟨rfl, rfl⟩)
                  | (at_builtin; refine wp_appI2 HRw.out (m := 1) (news := [.int .i64 (tkAt n F j : Int)]) rfl (one_cell W8 _ _) (one_int _) (by have := HM17.out; have := HJl.out; omega) HSz8.out _ _ (by rfl) (by rfl) (by rfl) (by rfl) ?_; intro v2 w10 ho hg; obtain ⟨gq, cn, rfl, a1, a2, a3, a4, a5⟩ := HTL9.out.app ho hg; have HTL11 := hide a3; clear ho hg a3)
                  | ((with_reducible refine atLd 31 ?_); refine wp_loadB (c := (spL true (nb : Int) (.slice p' lb c') zN).toArray) (HIb.out p' c') uSp HV7.out _ (by rfl) (by rfl) (by rfl) ?_)
                  | ((with_reducible refine atSt 31 ?_); refine wp_storeB (c := (spL true (nb : Int) (.slice p' lb c') zN).toArray) (z := (spL true (na : Int) (.slice pq la cq) zN).toArray) (HIb.out p' c') rfl (sp_one _ _ _ _ _ _) (HSb.out.later HB7.out) _ _ (by rfl) (by rfl) (by rfl) (by rfl) ?_; intro W8 hb8 ho8; have HTL8 := hide (HSp.out W7 W8 p' c' HB7.out HF7.out HL6.out hb8 ho8); have HTL9 := hide (HTL8.out.later (below_alloc W8 (.cells #[.int .i64 (tkAt n F j : Int)] 3))); have HRw := hide HTL9.out.row; have HSz8 := hide HTL9.out.sz; have o2 : W8.cell? ⟨w5.heap.size, 2, none⟩ = some (.slice pp j cp) := HTL8.out.one.cell 2; clear hb8 ho8)
                  | (go_at_call 14; (with_reducible refine Calls.mono HTk.out ?_); rintro e w6 ⟨p', c', rfl, ⟨hf, hl⟩, hb⟩; have HF6 := hide hf; have HL6 := hide hl; have HB6 := hide hb; clear hf hl hb)
                  | ((with_reducible refine atSt 31 ?_); refine wp_storeB (c := (spL true (nb : Int) (.slice p' lb c') zN).toArray) (z := (spL false 0 (.slice none 0 0) zN).toArray) (HIb.out p' c') rfl (sp_one _ _ _ _ _ _) (zSpB w6) _ _ (by rfl) (by rfl) (by rfl) (by rfl) ?_; intro W7 hb7 ho7; have HV7 := hide hb7; have hb67 := (show Below w6.heap.size w6 W7 from below_only1 (below_alloc w6 _) ho7 (Nat.le_refl _)); have HB7 := hide (below_trans HB6.out hb67); have HF7 := hide (HF6.out.later hb67); clear hb7 ho7 hb67)
                  | ((with_reducible refine atLd 31 ?_); refine wp_loadB (c := (spL true (na : Int) (.slice pq la cq) zN).toArray) HIa.out uSp HSb.out _ (by rfl) (by rfl) (by rfl) ?_))
                exact ⟨⟨j + 1, some ⟨gq, 0, none⟩, cn, p', c', by rw [fst1_s], by simp, HJl.out, HTL11.out⟩, by simp [intOf]; have := HJl.out; omega⟩
              · have m1 : ¬ (j : Int) < (xk.G.length : Int) := by omega
                obtain rfl : j = xk.G.length := by omega
                have hff : fst1 n F xk.G.length = (xk.f : Int) := by
                  unfold fst1
                  split
                  · rename_i h; rw [HPu.out.e0 h]; rfl
                  · rename_i h; rw [HPu.out.ef (by omega)]
                rw [hff]
                have HStb := hide (show ∀ V, Calls Tryz.prog 15 #[.string pl, .int .i64 (xk.f : Int)] V fun e w' => e = .returned (.string xk.st) ∧ Below V.heap.size V w' from fun V => by
                  rw [HPu.out.kp.st HGood.out]
                  exact rstub_e V pl xk.f HGood.out HPu.out.kp.f4)
                obtain ⟨kN, hkN⟩ : ∃ kN : Kt, kN = ⟨pl, xk, pp, cp⟩ := ⟨_, rfl⟩
                have HEnd := hide (fun w8 (h8 : Below wr.heap.size wr w8) => st_put (HTf.out pp cp) HR5.out HBb.out ⟨_, HB5.out.sB⟩ hTL HPu.out.eG h8 HKl.out.1 HKl.out.2)
                rw [← hkN] at HEnd
                have HkN : Hid (ktL kN = [.string xk.st, .string pl, .slice pp xk.G.length cp]) := hide (by rw [hkN]; rfl)
                have HOne := hide hTL.one
                have HKi2 := hide (show (Tryz.prog.info? 38).map (·.size) = some (ktL kN).toArray.size from (by show _ = some 3; kernel_rfl))
                have HKl9 : Hid (Ks.length ≤ 1000) := hide (by have := HKl.out; have := HLt.out; have := HLn.out; simp at this ⊢; try omega)
                clear hTL hj hlj hff HTL HPu hkN
                go_wp2_with (first
                  | (go_at_call 13; (with_reducible refine Calls.mono (HPgs.out _) ?_); rintro e w6x ⟨rfl, rfl⟩)
                  | (go_at_call 15; (with_reducible refine Calls.mono (HStb.out _) ?_); rintro e w8 ⟨rfl, hb⟩; obtain ⟨k9, hE⟩ := HEnd.out w8 hb; have o0 : w8.cell? ⟨w5.heap.size, 0, none⟩ = some (.string ⟨#[]⟩) := (HOne.out.later hb).cell 0; have f0 := (HOne.out.later hb).frozen 0; have o9 : (w8.setCell ⟨w5.heap.size, 0, none⟩ (.string xk.st)).cell? ⟨w5.heap.size, 0, none⟩ = some (.string xk.st) := by rw [k9.cell, HkN.out]; rfl
                     have HK9 := hide k9; have HE9 := hide hE; clear hb k9 hE)
                  | ((with_reducible refine atLd 38 ?_); generalize w8.setCell ⟨w5.heap.size, 0, none⟩ (.string xk.st) = W9 at HK9 HE9 o9 ⊢; refine wp_loadB (c := (ktL kN).toArray) HKi2.out ⟨_, Tryz.underlying38, rfl⟩ HK9.out _ (by rfl) (by rfl) (by rfl) ?_)
                  | ((with_reducible refine atBsK 32 ?_); refine wp_bsK kN _ (by rfl) (by rfl) (by rfl) ?_; have HRv := hide (HE9.out (W9.alloc (.cells (ktL kN).toArray 38)) (below_alloc _ _)))
                  | (at_builtin; refine wp_appK kN HRv.out.1.row HKl9.out HRv.out.2.1 _ _ (by rfl) (by rfl) (by rfl) (by rfl) ?_; intro v2 w11 ho hg; have HS11 := hide (HRv.out.2.2 v2 w11 ho hg); clear ho hg))
                exact ⟨⟨k + 1, by simp, HLt.out, HS11.out⟩, by simp [intOf]; have := HLt.out; omega⟩
          · have l4 : (4000 : Int) < (pl.size : Int) := by omega
            simp only [if_neg h4] at HPt
            have HBad : Hid (4000 < pl.size) := hide (by omega)
            clear h4
            go_wp2_with (first
            | ((with_reducible refine atLd 34 ?_); refine wpList_load_mid rfl 34 _ rfl bo (o + k * 4) (by rfl) [.bool false, .int .i64 nn, .int .u8 (bb : Int), .string ss] _ (HR0.out _ HT.out.bel) Tryz.underlying34 rfl HSz.out ?_)
            | ((with_reducible refine atSt 34 ?_); refine wp_storeB (c := #[.bool false, .int .i64 nn, .int .u8 (bb : Int), .string ss]) (z := #[.bool false, .int .i64 0, .int .u8 0, .string ⟨#[]⟩]) HOi.out rfl HOo.out (Blk.new wr #[.bool false, .int .i64 0, .int .u8 0, .string ⟨#[]⟩] 34) _ _ (by rfl) (by rfl) (by rfl) (by rfl) ?_; intro W3 hb3 ho3; have x0 : W3.cell? ⟨wr.heap.size, 0, none⟩ = some (.bool false) := hb3.cell 0; have HX3 := hide hb3; have HB3 := hide (show Below wr.heap.size wr W3 from below_only1 (below_alloc wr _) ho3 (Nat.le_refl _)); clear hb3 ho3)
            | ((with_reducible refine atLd 34 ?_); refine wp_loadB (c := #[.bool false, .int .i64 nn, .int .u8 (bb : Int), .string ss]) HOi.out ⟨_, Tryz.underlying34, rfl⟩ HX3.out _ (by rfl) (by rfl) (by rfl) ?_)
            | (go_at_call 11; (with_reducible refine Calls.mono (HPay.out _) ?_); rintro e w4 ⟨rfl, hb⟩; have HB4 := hide (below_trans HB3.out hb); clear hb)
            | (go_at_call 12; (with_reducible refine Calls.mono (HPt.out _ HB4.out) ?_); rintro e w5 ⟨⟨xst, xf, xG⟩, sv5, P5, K5, rfl, hpu⟩; obtain rfl : xst = ⟨#[]⟩ := hpu.eb HBad.out; have HT5 := hide ((HT.out.later HB4.out).bad hpu HBad.out); have HB5 := hide ((HBm.out.later HB4.out).kb hpu.kb); have HR5 := hide ((HRm.out.later HB4.out).kb hpu.kb); clear hpu)
            )
            exact ⟨⟨k + 1, by simp, HLt.out, sv5, n, P5, K5, F, Ks, pF, cF, HT5.out, HB5.out, HR5.out, by have := HKl.out; simp at this ⊢; try omega, by have := HKl.out; simp at this ⊢; try omega⟩, by simp [intOf]; have := HLt.out; omega⟩
        · obtain rfl : Ks = [] := List.length_eq_zero_iff.1 h0
          clear h0
          by_cases h4 : pl.size ≤ 4000
          · have l4 : ¬ (4000 : Int) < (pl.size : Int) := by omega
            simp only [if_pos h4] at HPt
            have HGood := hide h4
            have HKz := hide (show (Tryz.prog.info? 38).map (·.size) = some (#[Value.string ⟨#[]⟩, .string pl, .slice none 0 0]).size from (by show _ = some 3; kernel_rfl))
            have HKo := hide (show (#[Value.string ⟨#[]⟩, .string pl, .slice none 0 0]).all (·.oneCell') = true from all_oneCell_toArray (cs := [Value.string ⟨#[]⟩, .string pl, .slice none 0 0]) (by intro v hv; simp at hv; rcases hv with rfl | rfl | rfl <;> rfl))
            clear h4
            go_wp2_with (first
            | ((with_reducible refine atLd 34 ?_); refine wpList_load_mid rfl 34 _ rfl bo (o + k * 4) (by rfl) [.bool true, .int .i64 nn, .int .u8 (bb : Int), .string ss] _ (HR0.out _ HT.out.bel) Tryz.underlying34 rfl HSz.out ?_)
            | ((with_reducible refine atSt 34 ?_); refine wp_storeB (c := #[.bool true, .int .i64 nn, .int .u8 (bb : Int), .string ss]) (z := #[.bool false, .int .i64 0, .int .u8 0, .string ⟨#[]⟩]) HOi.out rfl HOo.out (Blk.new wr #[.bool false, .int .i64 0, .int .u8 0, .string ⟨#[]⟩] 34) _ _ (by rfl) (by rfl) (by rfl) (by rfl) ?_; intro W3 hb3 ho3; have x0 : W3.cell? ⟨wr.heap.size, 0, none⟩ = some (.bool true) := hb3.cell 0; have HX3 := hide hb3; have HB3 := hide (show Below wr.heap.size wr W3 from below_only1 (below_alloc wr _) ho3 (Nat.le_refl _)); clear hb3 ho3)
            | ((with_reducible refine atLd 34 ?_); refine wp_loadB (c := #[.bool true, .int .i64 nn, .int .u8 (bb : Int), .string ss]) HOi.out ⟨_, Tryz.underlying34, rfl⟩ HX3.out _ (by rfl) (by rfl) (by rfl) ?_)
            | (go_at_call 11; (with_reducible refine Calls.mono (HPay.out _) ?_); rintro e w4 ⟨rfl, hb⟩; have HB4 := hide (below_trans HB3.out hb); clear hb)
            | (go_at_call 12; (with_reducible refine Calls.mono (HPt.out _ HB4.out) ?_); rintro e w5 ⟨xk, sv5, P5, K5, rfl, hpu⟩; have HB5 := hide ((HBm.out.later HB4.out).kb hpu.kb); have HR5 := hide ((HRm.out.later HB4.out).kb hpu.kb); have HTf := hide (fun pp kp => (HT.out.later HB4.out).put hpu HGood.out pp kp); have HPu := hide hpu; clear hpu)
            | ((with_reducible refine atSt 38 ?_); refine wp_storeB (c := #[.string ⟨#[]⟩, .string pl, .slice none 0 0]) (z := #[.string ⟨#[]⟩, .string ⟨#[]⟩, .slice none 0 0]) HKz.out rfl HKo.out (Blk.new w5 #[.string ⟨#[]⟩, .string ⟨#[]⟩, .slice none 0 0] 38) _ _ (by rfl) (by rfl) (by rfl) (by rfl) ?_; intro W6 hb6 ho6; have HTL := hide (tl_start HB5.out (show Below w5.heap.size w5 W6 from below_only1 (below_alloc w5 _) ho6 (Nat.le_refl _)) hb6); clear hb6 ho6)
            )
            have HM : Hid (pgN pl.size = xk.G.length) := hide (HPu.out.len HGood.out).symm
            have HPgs := hide (fun V => rpages_e V pl.size HGood.out)
            rw [HM.out] at HPgs
            have HM17 : Hid (xk.G.length ≤ 17 ∧ F.length ≤ 5000 ∧ n ≤ 1000) := hide ⟨HPu.out.kp.gl, by have := HKl.out; have := HLt.out; have := HLn.out; omega, by have := HT.out.n17; have := HLt.out; have := HLn.out; omega⟩
            go_loopw [15, 16] (fun fv jv wq => ∃ j pp cp pq cq, fv = .int .i64 (fst1 n F j) ∧ jv = .int .i64 ((j : Nat) : Int) ∧ j ≤ xk.G.length ∧ TL w5 wq b n F pl j j pp cp pq cq) (fun _ jv _ => xk.G.length - (intOf jv).toNat)
            case atStart => exact ⟨0, none, 0, _, _, rfl, rfl, by omega, HTL.out⟩
            case round =>
              obtain ⟨j, pp, cp, pq, cq, rfl, rfl, hj, hTL⟩ := hrel
              by_cases hlj : j < xk.G.length
              · have m1 : (j : Int) < (xk.G.length : Int) := by omega
                have m2 : IntKind.i64.wrap ((j : Int) + 1) = ((j + 1 : Nat) : Int) := by have := HM17.out; rw [IntKind.wrap_i64]; omega
                have m3 : (0 : Int) < ((j + 1 : Nat) : Int) := by omega
                have HJl : Hid (j + 1 ≤ xk.G.length) := hlj
                have HTk := hide (show Calls Tryz.prog 14 #[.agg (spL true ((n + (j - F.length) : Nat) : Int) (.slice pq (F.drop j).length cq) zN).toArray] wr fun e w' => ∃ p' c', e = .returned (.tuple #[.agg (spL true ((n + (j + 1 - F.length) : Nat) : Int) (.slice p' (F.drop (j + 1)).length c') zN).toArray, .int .i64 (tkAt n F j : Int), .int .i64 0]) ∧ (FrP w' p' c' (F.drop (j + 1)) ∧ (0 < (F.drop (j + 1)).length → ∃ bq o, p' = some ⟨bq, o, none⟩ ∧ bq < w5.heap.size)) ∧ Below wr.heap.size wr w' from by
                  have hh := rtake_g wr b (n + (j - F.length)) hTL.pq (by rw [List.length_drop]; have := HM17.out; omega) (fun _ => by have := HM17.out; omega)
                  rw [tkAt_shift, List.tail_drop, show n + (j - F.length) + (1 - (F.drop j).length) = n + (j + 1 - F.length) by rw [List.length_drop]; omega] at hh
                  exact hh)
                have HSp := hide (fun W7 W8 p' c' hb hf hl (hs : SpB W8 b true ((n + (j + 1 - F.length) : Nat) : Int) (.slice p' (F.drop (j + 1)).length c') zN) ho => hTL.space (W7 := W7) (W8 := W8) (p' := p') (c' := c') hb hf hl hs ho)
                have HSb := hide (show Blk wr b (spL true ((n + (j - F.length) : Nat) : Int) (.slice pq (F.drop j).length cq) zN).toArray 31 from hTL.pq.pb.sB)
                obtain ⟨na, hna⟩ : ∃ na, n + (j - F.length) = na := ⟨_, rfl⟩
                obtain ⟨la, hla⟩ : ∃ la, (F.drop j).length = la := ⟨_, rfl⟩
                obtain ⟨nb, hnb⟩ : ∃ nb, n + (j + 1 - F.length) = nb := ⟨_, rfl⟩
                obtain ⟨lb, hlb⟩ : ∃ lb, (F.drop (j + 1)).length = lb := ⟨_, rfl⟩
                rw [hna, hla, hnb, hlb] at HTk
                rw [hna, hla] at HSb
                rw [hnb, hlb] at HSp
                have HIa := hide (infoSp true (na : Int) (.slice pq la cq) zN)
                have HIb := hide (fun p' c' => infoSp true (nb : Int) (.slice p' lb c') zN)
                have HTL0 := hide hTL
                clear hTL hna hla hnb hlb hj hlj HTL
                go_wp2_with (first
                  | (go_at_call 13; (with_reducible refine Calls.mono (HPgs.out _) ?_); rintro e w6x ⟨rfl, rfl⟩)
                  | (at_builtin; refine wp_appI2 HRw.out (m := 1) (news := [.int .i64 (tkAt n F j : Int)]) rfl (one_cell W8 _ _) (one_int _) (by have := HM17.out; have := HJl.out; omega) HSz8.out _ _ (by rfl) (by rfl) (by rfl) (by rfl) ?_; intro v2 w10 ho hg; obtain ⟨gq, cn, rfl, a1, a2, a3, a4, a5⟩ := HTL9.out.app ho hg; have HTL11 := hide a3; clear ho hg a3)
                  | ((with_reducible refine atLd 31 ?_); refine wp_loadB (c := (spL true (nb : Int) (.slice p' lb c') zN).toArray) (HIb.out p' c') uSp HV7.out _ (by rfl) (by rfl) (by rfl) ?_)
                  | ((with_reducible refine atSt 31 ?_); refine wp_storeB (c := (spL true (nb : Int) (.slice p' lb c') zN).toArray) (z := (spL true (na : Int) (.slice pq la cq) zN).toArray) (HIb.out p' c') rfl (sp_one _ _ _ _ _ _) (HSb.out.later HB7.out) _ _ (by rfl) (by rfl) (by rfl) (by rfl) ?_; intro W8 hb8 ho8; have HTL8 := hide (HSp.out W7 W8 p' c' HB7.out HF7.out HL6.out hb8 ho8); have HTL9 := hide (HTL8.out.later (below_alloc W8 (.cells #[.int .i64 (tkAt n F j : Int)] 3))); have HRw := hide HTL9.out.row; have HSz8 := hide HTL9.out.sz; have o2 : W8.cell? ⟨w5.heap.size, 2, none⟩ = some (.slice pp j cp) := HTL8.out.one.cell 2; clear hb8 ho8)
                  | (go_at_call 14; (with_reducible refine Calls.mono HTk.out ?_); rintro e w6 ⟨p', c', rfl, ⟨hf, hl⟩, hb⟩; have HF6 := hide hf; have HL6 := hide hl; have HB6 := hide hb; clear hf hl hb)
                  | ((with_reducible refine atSt 31 ?_); refine wp_storeB (c := (spL true (nb : Int) (.slice p' lb c') zN).toArray) (z := (spL false 0 (.slice none 0 0) zN).toArray) (HIb.out p' c') rfl (sp_one _ _ _ _ _ _) (zSpB w6) _ _ (by rfl) (by rfl) (by rfl) (by rfl) ?_; intro W7 hb7 ho7; have HV7 := hide hb7; have hb67 := (show Below w6.heap.size w6 W7 from below_only1 (below_alloc w6 _) ho7 (Nat.le_refl _)); have HB7 := hide (below_trans HB6.out hb67); have HF7 := hide (HF6.out.later hb67); clear hb7 ho7 hb67)
                  | ((with_reducible refine atLd 31 ?_); refine wp_loadB (c := (spL true (na : Int) (.slice pq la cq) zN).toArray) HIa.out uSp HSb.out _ (by rfl) (by rfl) (by rfl) ?_))
                exact ⟨⟨j + 1, some ⟨gq, 0, none⟩, cn, p', c', by rw [fst1_s], by simp, HJl.out, HTL11.out⟩, by simp [intOf]; have := HJl.out; omega⟩
              · have m1 : ¬ (j : Int) < (xk.G.length : Int) := by omega
                obtain rfl : j = xk.G.length := by omega
                have hff : fst1 n F xk.G.length = (xk.f : Int) := by
                  unfold fst1
                  split
                  · rename_i h; rw [HPu.out.e0 h]; rfl
                  · rename_i h; rw [HPu.out.ef (by omega)]
                rw [hff]
                have HStb := hide (show ∀ V, Calls Tryz.prog 15 #[.string pl, .int .i64 (xk.f : Int)] V fun e w' => e = .returned (.string xk.st) ∧ Below V.heap.size V w' from fun V => by
                  rw [HPu.out.kp.st HGood.out]
                  exact rstub_e V pl xk.f HGood.out HPu.out.kp.f4)
                obtain ⟨kN, hkN⟩ : ∃ kN : Kt, kN = ⟨pl, xk, pp, cp⟩ := ⟨_, rfl⟩
                have HEnd := hide (fun w8 (h8 : Below wr.heap.size wr w8) => st_put (HTf.out pp cp) HR5.out HBb.out ⟨_, HB5.out.sB⟩ hTL HPu.out.eG h8 HKl.out.1 HKl.out.2)
                rw [← hkN] at HEnd
                have HkN : Hid (ktL kN = [.string xk.st, .string pl, .slice pp xk.G.length cp]) := hide (by rw [hkN]; rfl)
                have HOne := hide hTL.one
                have HKi2 := hide (show (Tryz.prog.info? 38).map (·.size) = some (ktL kN).toArray.size from (by show _ = some 3; kernel_rfl))
                have HKl9 : Hid (([] : List Kt).length ≤ 1000) := hide (by have := HKl.out; have := HLt.out; have := HLn.out; simp at this ⊢; try omega)
                clear hTL hj hlj hff HTL HPu hkN
                go_wp2_with (first
                  | (go_at_call 13; (with_reducible refine Calls.mono (HPgs.out _) ?_); rintro e w6x ⟨rfl, rfl⟩)
                  | (go_at_call 15; (with_reducible refine Calls.mono (HStb.out _) ?_); rintro e w8 ⟨rfl, hb⟩; obtain ⟨k9, hE⟩ := HEnd.out w8 hb; have o0 : w8.cell? ⟨w5.heap.size, 0, none⟩ = some (.string ⟨#[]⟩) := (HOne.out.later hb).cell 0; have f0 := (HOne.out.later hb).frozen 0; have o9 : (w8.setCell ⟨w5.heap.size, 0, none⟩ (.string xk.st)).cell? ⟨w5.heap.size, 0, none⟩ = some (.string xk.st) := by rw [k9.cell, HkN.out]; rfl
                     have HK9 := hide k9; have HE9 := hide hE; clear hb k9 hE)
                  | ((with_reducible refine atLd 38 ?_); generalize w8.setCell ⟨w5.heap.size, 0, none⟩ (.string xk.st) = W9 at HK9 HE9 o9 ⊢; refine wp_loadB (c := (ktL kN).toArray) HKi2.out ⟨_, Tryz.underlying38, rfl⟩ HK9.out _ (by rfl) (by rfl) (by rfl) ?_)
                  | ((with_reducible refine atBsK 32 ?_); refine wp_bsK kN _ (by rfl) (by rfl) (by rfl) ?_; have HRv := hide (HE9.out (W9.alloc (.cells (ktL kN).toArray 38)) (below_alloc _ _)))
                  | (at_builtin; refine wp_appK kN HRv.out.1.row HKl9.out HRv.out.2.1 _ _ (by rfl) (by rfl) (by rfl) (by rfl) ?_; intro v2 w11 ho hg; have HS11 := hide (HRv.out.2.2 v2 w11 ho hg); clear ho hg))
                exact ⟨⟨k + 1, by simp, HLt.out, HS11.out⟩, by simp [intOf]; have := HLt.out; omega⟩
          · have l4 : (4000 : Int) < (pl.size : Int) := by omega
            simp only [if_neg h4] at HPt
            have HBad : Hid (4000 < pl.size) := hide (by omega)
            clear h4
            go_wp2_with (first
            | ((with_reducible refine atLd 34 ?_); refine wpList_load_mid rfl 34 _ rfl bo (o + k * 4) (by rfl) [.bool true, .int .i64 nn, .int .u8 (bb : Int), .string ss] _ (HR0.out _ HT.out.bel) Tryz.underlying34 rfl HSz.out ?_)
            | ((with_reducible refine atSt 34 ?_); refine wp_storeB (c := #[.bool true, .int .i64 nn, .int .u8 (bb : Int), .string ss]) (z := #[.bool false, .int .i64 0, .int .u8 0, .string ⟨#[]⟩]) HOi.out rfl HOo.out (Blk.new wr #[.bool false, .int .i64 0, .int .u8 0, .string ⟨#[]⟩] 34) _ _ (by rfl) (by rfl) (by rfl) (by rfl) ?_; intro W3 hb3 ho3; have x0 : W3.cell? ⟨wr.heap.size, 0, none⟩ = some (.bool true) := hb3.cell 0; have HX3 := hide hb3; have HB3 := hide (show Below wr.heap.size wr W3 from below_only1 (below_alloc wr _) ho3 (Nat.le_refl _)); clear hb3 ho3)
            | ((with_reducible refine atLd 34 ?_); refine wp_loadB (c := #[.bool true, .int .i64 nn, .int .u8 (bb : Int), .string ss]) HOi.out ⟨_, Tryz.underlying34, rfl⟩ HX3.out _ (by rfl) (by rfl) (by rfl) ?_)
            | (go_at_call 11; (with_reducible refine Calls.mono (HPay.out _) ?_); rintro e w4 ⟨rfl, hb⟩; have HB4 := hide (below_trans HB3.out hb); clear hb)
            | (go_at_call 12; (with_reducible refine Calls.mono (HPt.out _ HB4.out) ?_); rintro e w5 ⟨⟨xst, xf, xG⟩, sv5, P5, K5, rfl, hpu⟩; obtain rfl : xst = ⟨#[]⟩ := hpu.eb HBad.out; have HT5 := hide ((HT.out.later HB4.out).bad hpu HBad.out); have HB5 := hide ((HBm.out.later HB4.out).kb hpu.kb); have HR5 := hide ((HRm.out.later HB4.out).kb hpu.kb); clear hpu)
            )
            exact ⟨⟨k + 1, by simp, HLt.out, sv5, n, P5, K5, F, [], pF, cF, HT5.out, HB5.out, HR5.out, by have := HKl.out; simp at this ⊢; try omega, by have := HKl.out; simp at this ⊢; try omega⟩, by simp [intOf]; have := HLt.out; omega⟩
    · have l2 : ¬ (k : Int) < (len : Int) := by omega
      have HT := hide hT
      have HBm := hide hB
      have HRm := hide hR
      have HKl := hide hKl
      have hk40 : k ≤ 40 := by have := HLn.out; omega
      clear hT hB hR HSt hFl hKl hk hlt
      go_wp2_with fail
      go_loopw [20] (fun jv wq => ∃ j, jv = .int .i64 ((j : Nat) : Int) ∧ j ≤ Ks.length ∧ Below wr.heap.size wr wq) (fun jv _ => Ks.length - (intOf jv).toNat)
      case atStart => exact ⟨0, rfl, by omega, below_refl _⟩
      case round =>
        obtain ⟨j, rfl, hj, hbq⟩ := hrel
        by_cases hlj : j < Ks.length
        · have m1 : (j : Int) < (Ks.length : Int) := by omega
          have m0 : (0 : Int) ≤ (j : Int) := by omega
          have m2 : IntKind.i64.wrap ((j : Int) + 1) = ((j + 1 : Nat) : Int) := by have := HKl.out; rw [IntKind.wrap_i64]; omega
          have HJl : Hid (j + 1 ≤ Ks.length) := hlj
          obtain ⟨g6, rfl⟩ := HRm.out.ptr (by omega)
          obtain ⟨kj, hkj⟩ : ∃ kj, Ks[j]? = some kj := ⟨_, List.getElem?_eq_getElem hlj⟩
          have hRq := HRm.out.later hbq
          have HRng := hide (show wr.rangeAt g6 (j * 3) [.string kj.x.st, .string kj.s, .slice kj.pp kj.x.G.length kj.kp] from fun c v hv => by
            have hc3 : c < 3 := by have := (List.getElem?_eq_some_iff.1 hv).1; simpa using this
            rw [hRq.at hkj c hc3]; exact hv)
          have HKi := hide (show (Tryz.prog.info? 38).map (·.size) = some ([Value.string kj.x.st, .string kj.s, .slice kj.pp kj.x.G.length kj.kp]).length from (by show _ = some 3; kernel_rfl))
          have HTo := hide (show Calls Tryz.prog 16 #[.pointer (some ⟨t, 0, none⟩), .agg #[.string kj.x.st, .string kj.s, .slice kj.pp kj.x.G.length kj.kp], .string ⟨#[120]⟩] wr fun e w' => e = .returned (.bool true) ∧ Below wr.heap.size wr w' from told_pt (HT.out.later hbq) (List.mem_of_getElem? hkj) ⟨#[120]⟩ (by decide) (hRq.frs kj (List.mem_of_getElem? hkj)))
          have HBq := hide hbq
          clear hbq hj hlj hkj hRq
          go_wp2_with (first
            | ((with_reducible refine atLd 38 ?_); refine wpList_load_mid rfl 38 _ rfl g6 (j * 3) (by rfl) [.string kj.x.st, .string kj.s, .slice kj.pp kj.x.G.length kj.kp] _ HRng.out Tryz.underlying38 rfl HKi.out ?_)
            | (go_at_call 16; (with_reducible refine Calls.mono HTo.out ?_); rintro e w5 ⟨rfl, hb⟩; have HB5 := hide (below_trans HBq.out hb); clear hb))
          exact ⟨⟨j + 1, by simp, HJl.out, HB5.out⟩, by simp [intOf]; have := HJl.out; omega⟩
        · have m1 : ¬ (j : Int) < (Ks.length : Int) := by omega
          have hTq := HT.out.later hbq
          have hBq := HBm.out.later hbq
          have HFr := hide (free_pt hTq)
          have HCt := hide (fun V (hb : Below wr.heap.size wr V) => count_e V t pm n (hTq.later hb).sp.ld.tr)
          have HC := hide (fun V (hb : Below wr.heap.size wr V) => (show V.cell? ⟨b, 2, none⟩ = some (.slice pF F.length cF) ∧ V.cell? ⟨b, 1, none⟩ = some (.int .i64 (n : Int)) from ⟨(hBq.sB.later hb).c2, (hBq.sB.later hb).c1⟩))
          have HB := hide hTq.bel
          clear hTq hBq hbq hj m1 HT HBm HRm
          have m1 : ¬ (j : Int) < (Ks.length : Int) := by omega
          generalize F.length = fl at *
          go_wp2_with (first
            | (go_at_call 17; (with_reducible refine Calls.mono HFr.out ?_); rintro e w5 ⟨p9, c9, rfl, hb⟩; have HB5 := hide (below_trans hb (below_drew w5)); have HC5 := hide (HC.out _ HB5.out); clear hb))
          go_region_held3 (fun V => V.cell? ⟨b, 2, none⟩ = some (.slice pF fl cF) ∧ V.cell? ⟨b, 1, none⟩ = some (.int .i64 (n : Int))) (first | exact HC5.out | exact HC6.out | exact HC7.out) (first
            | (go_at_call 18; (with_reducible refine Calls.mono (HCt.out _ HB5.out) ?_); rintro e w6 ⟨rfl, hb⟩; have HB6 := hide (below_trans HB5.out hb); have HC6 := hide (HC.out _ HB6.out); clear hb)
            | (go_at_call 7; (with_reducible refine Calls.mono (HAw.out _) ?_); rintro e w7 ⟨rfl, hb⟩; have HB7 := hide (below_trans HB6.out hb); have HC7 := hide (HC.out _ HB7.out); clear hb))
          all_goals
            go_wp2_with fail
            go_ret
            exact ⟨rfl, below_trans HB.out HB7.out⟩
end Go.Proofs.YthgclfhfipfknaaGreat

namespace Go.Proofs.YthgclfhfipfknaaGreat
open Go.ChangeShapes Go.WideShapes Go.ChangeAt Go.RowKit Go.Deep
set_option linter.unusedVariables false

theorem cellsOp11 : Tryz.prog.cellsOf 34 = 4 := by kernel_rfl
theorem cellsU8' : Tryz.prog.cellsOf 5 = 1 := by kernel_rfl
theorem cellsB' : Tryz.prog.cellsOf 4 = 1 := by kernel_rfl
theorem cellsS' : Tryz.prog.cellsOf 9 = 1 := by kernel_rfl
theorem four_of {α : Type} {l : List α} (h : l.length = 4) : ∃ a b c d, l = [a, b, c, d] := by
  match l, h with
  | [a, b, c, d], _ => exact ⟨a, b, c, d, rfl⟩
theorem u8_of {n : Int} (h : (Lit.int .u8 n).wf = true) : ∃ x : Nat, n = (x : Int) ∧ x < 256 := by
  simp only [Lit.wf, Bool.and_eq_true, decide_eq_true_eq] at h
  have e1 : IntKind.u8.min = 0 := by decide
  have e2 : IntKind.u8.max = 255 := by decide
  rw [e1, e2] at h
  exact ⟨n.toNat, by omega, by omega⟩
theorem size_of_reach {s : ByteArray} (h : s.data.toList.length ≤ reachBytes) : s.size ≤ 140737488355328 := by
  have e : s.size = s.data.toList.length := by cases s; rfl
  rw [e]
  exact Nat.le_trans h (by decide)
theorem weightsAll_mem {H : Type} {P : Program} {e : TypeId} {n : Nat} : ∀ {el : List (DataW H)} {i : Nat} {d : DataW H}, el[i]? = some d → n ∈ d.weights P e → n ∈ DataW.weightsAll P e el
  | d0 :: el, 0, d, h, hn => by
    simp only [List.getElem?_cons_zero, Option.some.injEq] at h
    subst h
    simp only [DataW.weightsAll, List.mem_append]
    exact .inl hn
  | d0 :: el, i + 1, d, h, hn => by
    simp only [List.getElem?_cons_succ] at h
    simp only [DataW.weightsAll, List.mem_append]
    exact .inr (weightsAll_mem h hn)
  | [], _, _, h, _ => by simp at h
theorem ops_sized {H : Type} {ts : List TypeId} {ds : List (DataW H)} {d0 : DataW H} (hsz : (DataW.weightsEach Tryz.prog ts ds).all (· ≤ reachBytes) = true) (ht : ts[0]? = some 22) (hd : ds[0]? = some d0) (el sp : List (DataW H)) (i : Nat) (a b c : DataW H) (bs : List UInt8) (h1 : d0 = .slice el sp) (h2 : el[i]? = some (.agg [a, b, c, .lit (.string bs)])) : bs.length ≤ reachBytes := by
  subst h1
  have hm : bs.length ∈ (DataW.agg [a, b, c, .lit (.string bs)]).weights Tryz.prog 34 := by
    simp [DataW.weights, Tryz.underlying34, DataW.weightsEach]
  have hm2 : bs.length ∈ (DataW.slice el sp).weights Tryz.prog 22 := by
    simp only [DataW.weights, Tryz.underlying22]
    exact List.mem_cons_of_mem _ (List.mem_append_left _ (weightsAll_mem h2 hm))
  have := List.all_eq_true.1 hsz _ (DataW.weights_mem_each ht hd _ hm2)
  simpa using this
set_option maxRecDepth 100000 in
theorem open_ops11 {H : Type} {enc : TypeId × Value → H} {w : World} {fuel : Nat} {cs : List Value} {x : DataW H × List MemPlace} (h : DataW.trod enc Tryz.prog w 0 (fun _ => true) true fuel 22 cs = some x)
    (hz : ∀ (el sp : List (DataW H)) (i : Nat) (a b c : DataW H) (bs : List UInt8), x.1 = .slice el sp → el[i]? = some (.agg [a, b, c, .lit (.string bs)]) → bs.length ≤ reachBytes) :
    ∃ (p : Option Addr) (len cap : Nat) (D : Nat → Bool) (N : Nat → Int) (B : Nat → Nat) (S : Nat → ByteArray), cs = [.slice p len cap] ∧ OpQ w p len D N B S := by
  rcases open_slice Tryz.underlying22 h with h0 | ⟨a, len, cap, m, n, DD, Pl, rfl, hb, hl, hm, hmm, hxx, hx⟩
  · exact ⟨none, 0, 0, fun _ => false, fun _ => 0, fun _ => 0, fun _ => ⟨#[]⟩, h0.1, fun h => by omega⟩
  simp only [if_true] at hmm
  by_cases h0 : len = 0
  · subst h0; exact ⟨some a, 0, cap, fun _ => false, fun _ => 0, fun _ => 0, fun _ => ⟨#[]⟩, rfl, fun h => by omega⟩
  have each : ∀ i, i < m → ∃ q : Bool × Int × Nat × ByteArray, w.cell? (a.add (i * 4)) = some (.bool q.1) ∧ w.cell? (a.add (i * 4 + 1)) = some (.int .i64 q.2.1) ∧ w.cell? (a.add (i * 4 + 2)) = some (.int .u8 (q.2.2.1 : Int)) ∧ w.cell? (a.add (i * 4 + 3)) = some (.string q.2.2.2) ∧ q.2.2.1 < 256 ∧ ∃ y0 y1 y2, DD i = .agg [y0, y1, y2, .lit (.string q.2.2.2.data.toList)] := by
    intro i hi
    obtain ⟨cs', h1, h2⟩ := hx i hi
    rw [cellsOp11] at h1
    obtain ⟨_, hlen, hcell⟩ := World.cells?_some h1
    obtain ⟨xs, k, hk, hxy, _, hxl, hf⟩ := DataW.trod_struct Tryz.underlying34 h2
    obtain ⟨y0, y1, y2, y3, rfl⟩ := four_of (show xs.length = 4 from hxl)
    obtain ⟨v0, v1, v2, v3, rfl⟩ := four_of hlen
    have g0 := hf 0 _ rfl
    have g1 := hf 1 _ rfl
    have g2 := hf 2 _ rfl
    have g3 := hf 3 _ rfl
    simp [cellsInt, cellsU8', cellsB', cellsS'] at g0 g1 g2 g3
    obtain ⟨p0, e0, _⟩ := DataW.trod_bool Tryz.underlying4 g0
    obtain ⟨p1, e1, _, _⟩ := DataW.trod_int Tryz.underlying3 g1
    obtain ⟨p2, e2, _, wf⟩ := DataW.trod_int Tryz.underlying5 g2
    obtain ⟨p3, e3, hy3, _⟩ := DataW.trod_string Tryz.underlying9 g3
    simp at e0 e1 e2 e3
    subst e0 e1 e2 e3 hy3
    obtain ⟨xx, rfl, hxx2⟩ := u8_of wf
    have c0 := hcell 0 (by omega)
    have c1 := hcell 1 (by omega)
    have c2 := hcell 2 (by omega)
    have c3 := hcell 3 (by omega)
    rw [add_add] at c0 c1 c2 c3
    refine ⟨⟨p0, p1, xx, p3⟩, by simpa using c0, by simpa using c1, by simpa using c2, by simpa using c3, hxx2, y0.1, y1.1, y2.1, ?_⟩
    have := congrArg Prod.fst hxy
    simpa using this
  obtain ⟨q, hq⟩ := choose_lt each
  obtain ⟨b, o, spot⟩ := a
  have hspot : spot = none := by simpa [Addr.add] using World.cell?_spot (hq 0 (by omega)).1
  subst hspot
  refine ⟨some ⟨b, o, none⟩, len, cap, fun i => (q i).1, fun i => (q i).2.1, fun i => (q i).2.2.1, fun i => (q i).2.2.2, rfl, fun _ => ⟨b, o, rfl, fun i hi => ?_⟩⟩
  obtain ⟨c0, c1, c2, c3, c4, y0, y1, y2, c5⟩ := hq i (by omega)
  rw [add_plain] at c0 c1 c2 c3
  refine ⟨fun j v hj => ?_, c4, size_of_reach ?_⟩
  · have hj4 : j < 4 := by
      have := (List.getElem?_eq_some_iff.1 hj).1
      simpa [opA] using this
    rw [Nat.add_assoc]
    match j, hj4 with
    | 0, _ => simp [opA] at hj; rw [← hj]; exact c0
    | 1, _ => simp [opA] at hj; rw [← hj]; exact c1
    | 2, _ => simp [opA] at hj; rw [← hj]; exact c2
    | 3, _ => simp [opA] at hj; rw [← hj]; exact c3
  · exact hz _ _ i y0 y1 y2 _ (congrArg Prod.fst hxx) (by rw [List.getElem?_map, List.getElem?_range hi]; simp [c5])
set_option maxRecDepth 20000 in
theorem sback_walk (w : World) (p : Option Addr) (len cap : Nat) (D : Nat → Bool) (N : Nat → Int) (B : Nat → Nat) (S : Nat → ByteArray) (hp : OpQ w p len D N B S) :
    Calls Tryz.prog 4 #[.slice p len cap] w fun e w' => e = .returned (.bool true) ∧ Below w.heap.size w w' := by
  have HAw := hide (fun V => pawake_e V)
  by_cases hlen : len ≤ 40
  · exact sback_core w p len cap D N B S hp hlen
  · have l1 : (40 : Int) < (len : Int) := by omega
    clear hp
    go_enter Tryz.func4, Tryz.ntmps4
    go_wp2_with (first
      | (go_at_call 7; (with_reducible refine Calls.mono (HAw.out _) ?_); rintro e w1 ⟨rfl, hb⟩; have HB1 := hide hb; clear hb))
    go_ret
    exact ⟨rfl, HB1.out⟩
theorem ownT : ownKnob Tryz.prog.godebug = none := by kernel_rfl
theorem laidOutT : laidOutB Tryz.prog = true := by kernel_rfl
set_option maxRecDepth 100000 in
theorem spillBack_lifted (os : Os) (started : os.Started) (H : Type) (enc : TypeId × Value → H) :
    ReturnsInHanded {} Tryz.checked os 4 .any (Rows.spillBackSpec.pre6 enc Tryz.prog Tryz.f4 Rows.spillBackRow.domain false) (Rows.spillBackSpec.post enc Tryz.prog Tryz.f4 false true false false) := by
  refine returnsInHanded_of_change_sized (C := Tryz.checked) ownT started (by kernel_rfl) Tryz.func4
    (ChangeSpec.witness6 (enc := enc) (C := Tryz.checked) false ⟨#[], #[.slice none 0 0], []⟩ 8 (by kernel_rfl) (by kernel_rfl) (by kernel_rfl) (by kernel_rfl)) ?_
  intro W base args ds gs before hval0 hW hcnd hsz0 _
  have hval : ∀ (j : Nat) t v, Tryz.f4.params[j]? = some t → args[j]? = some v → Value.okWide Tryz.prog W .any base t v := hval0
  have hsz : (DataW.weightsEach Tryz.prog (Tryz.f4.params.toList ++ Rows.spillBackSpec.plain.varTypes Tryz.prog) (ds ++ gs)).all (· ≤ reachBytes) = true := hsz0
  have hW' := hW
  obtain ⟨p, q, hA0, hV, rfl, hfz, hnd⟩ := hW
  have hA : DataW.TrodAll enc Tryz.prog W 0 (fun _ => true) true Tryz.f4.params.toList args.toList ds p := hA0
  rw [Tryz.params4] at hA hval hsz
  obtain ⟨v0, vs0, d0, ds0, p0, q0, hargs, rfl, rfl, h0, r0⟩ := trodAll_cons hA
  obtain ⟨rfl, rfl, rfl⟩ := trodAll_nil r0
  obtain rfl : args = #[v0] := by cases args; simp_all
  obtain ⟨rfl, rfl⟩ := trodVars_none hV
  obtain ⟨a0, len0, cap0, rfl⟩ := okWide_slice Tryz.underlying22 (hval 0 22 v0 rfl rfl)
  simp only [List.append_nil] at hW'
  have hlt0 : ∀ x ∈ p0, x.block < W.heap.size := fun x hx => hW'.lt x (by simp [hx])
  have h0k : DataW.Trod enc Tryz.prog W 0 (fun _ => true) true 22 (.slice a0 len0 cap0) d0 p0 := h0
  have hargs0 : ∀ (W' : World), Below W.heap.size W W' → DataW.Trod enc Tryz.prog W' 0 (fun b => decide (b < W.heap.size)) true 22 (.slice a0 len0 cap0) d0 p0 :=
    fun W' hn => Below.trod laidOutT (by kernel_rfl) (of_decide_eq_true (by kernel_rfl)) h0k hn hlt0
  have hz := fun el sp i a b c bs h1 h2 => ops_sized (d0 := d0) hsz rfl rfl el sp i a b c bs h1 h2
  clear hA0 hval0 hsz0 hsz
  obtain ⟨D0, N0, B0, S0, hra0⟩ : ∃ D N B S, OpQ W a0 len0 D N B S := by
    obtain ⟨fuel, hf⟩ := h0
    obtain ⟨p, len, cap, D, N, B, S, hcs, hp⟩ := open_ops11 hf hz
    simp [Value.cells] at hcs
    obtain ⟨rfl, rfl, rfl⟩ := hcs
    exact ⟨D, N, B, S, hp⟩
  refine (sback_walk W a0 len0 cap0 D0 N0 B0 S0 hra0).mono fun e W' ⟨he, bel⟩ => ?_
  subst he
  have hfin : DataW.TrodAll enc Tryz.prog W' 0 (fun b => decide (b < W.heap.size)) true [22] [.slice a0 len0 cap0] [d0] p0 := by
    simpa using (trodAll_cons_mk (hargs0 W' bel) trodAll_mk0)
  exact ⟨_, rfl, _, _, _, [], _, [], hW', trodAll_mk1 (shut_bool Tryz.underlying4 _), hfin, rfl, bel.frame _, fun h => by cases h⟩
end Go.Proofs.YthgclfhfipfknaaGreat

namespace Go.Proofs.YthgclfhfipfknaaGreat
open Go.ChangeShapes Go.WideShapes Go.ChangeAt Go.RowKit Go.Deep
set_option linter.unusedVariables false

theorem size_of_reachR {s : ByteArray} (h : s.data.toList.length ≤ reachBytes) : s.size ≤ 140737488351232 := by
  have e : s.size = s.data.toList.length := by cases s; rfl
  rw [e]
  exact Nat.le_trans h (by decide)
set_option maxRecDepth 100000 in
theorem open_opsR {H : Type} {enc : TypeId × Value → H} {w : World} {fuel : Nat} {cs : List Value} {x : DataW H × List MemPlace} (h : DataW.trod enc Tryz.prog w 0 (fun _ => true) true fuel 22 cs = some x)
    (hz : ∀ (el sp : List (DataW H)) (i : Nat) (a b c : DataW H) (bs : List UInt8), x.1 = .slice el sp → el[i]? = some (.agg [a, b, c, .lit (.string bs)]) → bs.length ≤ reachBytes) :
    ∃ (p : Option Addr) (len cap : Nat) (D : Nat → Bool) (N : Nat → Int) (B : Nat → Nat) (S : Nat → ByteArray), cs = [.slice p len cap] ∧ OpR w p len D N B S := by
  rcases open_slice Tryz.underlying22 h with h0 | ⟨a, len, cap, m, n, DD, Pl, rfl, hb, hl, hm, hmm, hxx, hx⟩
  · exact ⟨none, 0, 0, fun _ => false, fun _ => 0, fun _ => 0, fun _ => ⟨#[]⟩, h0.1, fun h => by omega⟩
  simp only [if_true] at hmm
  by_cases h0 : len = 0
  · subst h0; exact ⟨some a, 0, cap, fun _ => false, fun _ => 0, fun _ => 0, fun _ => ⟨#[]⟩, rfl, fun h => by omega⟩
  have each : ∀ i, i < m → ∃ q : Bool × Int × Nat × ByteArray, w.cell? (a.add (i * 4)) = some (.bool q.1) ∧ w.cell? (a.add (i * 4 + 1)) = some (.int .i64 q.2.1) ∧ w.cell? (a.add (i * 4 + 2)) = some (.int .u8 (q.2.2.1 : Int)) ∧ w.cell? (a.add (i * 4 + 3)) = some (.string q.2.2.2) ∧ q.2.2.1 < 256 ∧ ∃ y0 y1 y2, DD i = .agg [y0, y1, y2, .lit (.string q.2.2.2.data.toList)] := by
    intro i hi
    obtain ⟨cs', h1, h2⟩ := hx i hi
    rw [cellsOp11] at h1
    obtain ⟨_, hlen, hcell⟩ := World.cells?_some h1
    obtain ⟨xs, k, hk, hxy, _, hxl, hf⟩ := DataW.trod_struct Tryz.underlying34 h2
    obtain ⟨y0, y1, y2, y3, rfl⟩ := four_of (show xs.length = 4 from hxl)
    obtain ⟨v0, v1, v2, v3, rfl⟩ := four_of hlen
    have g0 := hf 0 _ rfl
    have g1 := hf 1 _ rfl
    have g2 := hf 2 _ rfl
    have g3 := hf 3 _ rfl
    simp [cellsInt, cellsU8', cellsB', cellsS'] at g0 g1 g2 g3
    obtain ⟨p0, e0, _⟩ := DataW.trod_bool Tryz.underlying4 g0
    obtain ⟨p1, e1, _, _⟩ := DataW.trod_int Tryz.underlying3 g1
    obtain ⟨p2, e2, _, wf⟩ := DataW.trod_int Tryz.underlying5 g2
    obtain ⟨p3, e3, hy3, _⟩ := DataW.trod_string Tryz.underlying9 g3
    simp at e0 e1 e2 e3
    subst e0 e1 e2 e3 hy3
    obtain ⟨xx, rfl, hxx2⟩ := u8_of wf
    have c0 := hcell 0 (by omega)
    have c1 := hcell 1 (by omega)
    have c2 := hcell 2 (by omega)
    have c3 := hcell 3 (by omega)
    rw [add_add] at c0 c1 c2 c3
    refine ⟨⟨p0, p1, xx, p3⟩, by simpa using c0, by simpa using c1, by simpa using c2, by simpa using c3, hxx2, y0.1, y1.1, y2.1, ?_⟩
    have := congrArg Prod.fst hxy
    simpa using this
  obtain ⟨q, hq⟩ := choose_lt each
  obtain ⟨b, o, spot⟩ := a
  have hspot : spot = none := by simpa [Addr.add] using World.cell?_spot (hq 0 (by omega)).1
  subst hspot
  refine ⟨some ⟨b, o, none⟩, len, cap, fun i => (q i).1, fun i => (q i).2.1, fun i => (q i).2.2.1, fun i => (q i).2.2.2, rfl, fun _ => ⟨b, o, rfl, fun i hi => ?_⟩⟩
  obtain ⟨c0, c1, c2, c3, c4, y0, y1, y2, c5⟩ := hq i (by omega)
  rw [add_plain] at c0 c1 c2 c3
  refine ⟨fun j v hj => ?_, c4, size_of_reachR ?_⟩
  · have hj4 : j < 4 := by
      have := (List.getElem?_eq_some_iff.1 hj).1
      simpa [opA] using this
    rw [Nat.add_assoc]
    match j, hj4 with
    | 0, _ => simp [opA] at hj; rw [← hj]; exact c0
    | 1, _ => simp [opA] at hj; rw [← hj]; exact c1
    | 2, _ => simp [opA] at hj; rw [← hj]; exact c2
    | 3, _ => simp [opA] at hj; rw [← hj]; exact c3
  · exact hz _ _ i y0 y1 y2 _ (congrArg Prod.fst hxx) (by rw [List.getElem?_map, List.getElem?_range hi]; simp [c5])
set_option maxRecDepth 20000 in
theorem plays_walk (w : World) (p : Option Addr) (len cap : Nat) (D : Nat → Bool) (N : Nat → Int) (B : Nat → Nat) (S : Nat → ByteArray) (hp : OpR w p len D N B S) :
    Calls Tryz.prog 3 #[.slice p len cap] w fun e w' => e = .returned (.bool true) ∧ Below w.heap.size w w' := by
  have HAw := hide (fun V => pawake_e V)
  by_cases hlen : len ≤ 40
  · exact plays_core w p len cap D N B S hp hlen
  · have l1 : (40 : Int) < (len : Int) := by omega
    clear hp
    go_enter Tryz.func3, Tryz.ntmps3
    go_wp2_with (first
      | (go_at_call 7; (with_reducible refine Calls.mono (HAw.out _) ?_); rintro e w1 ⟨rfl, hb⟩; have HB1 := hide hb; clear hb))
    go_ret
    exact ⟨rfl, HB1.out⟩
set_option maxRecDepth 100000 in
theorem spillPlays_lifted (os : Os) (started : os.Started) (H : Type) (enc : TypeId × Value → H) :
    ReturnsInHanded {} Tryz.checked os 3 .any (Rows.spillPlaysSpec.pre6 enc Tryz.prog Tryz.f3 Rows.spillPlaysRow.domain false) (Rows.spillPlaysSpec.post enc Tryz.prog Tryz.f3 false true false false) := by
  refine returnsInHanded_of_change_sized (C := Tryz.checked) ownT started (by kernel_rfl) Tryz.func3
    (ChangeSpec.witness6 (enc := enc) (C := Tryz.checked) false ⟨#[], #[.slice none 0 0], []⟩ 8 (by kernel_rfl) (by kernel_rfl) (by kernel_rfl) (by kernel_rfl)) ?_
  intro W base args ds gs before hval0 hW hcnd hsz0 _
  have hval : ∀ (j : Nat) t v, Tryz.f3.params[j]? = some t → args[j]? = some v → Value.okWide Tryz.prog W .any base t v := hval0
  have hsz : (DataW.weightsEach Tryz.prog (Tryz.f3.params.toList ++ Rows.spillPlaysSpec.plain.varTypes Tryz.prog) (ds ++ gs)).all (· ≤ reachBytes) = true := hsz0
  have hW' := hW
  obtain ⟨p, q, hA0, hV, rfl, hfz, hnd⟩ := hW
  have hA : DataW.TrodAll enc Tryz.prog W 0 (fun _ => true) true Tryz.f3.params.toList args.toList ds p := hA0
  rw [Tryz.params3] at hA hval hsz
  obtain ⟨v0, vs0, d0, ds0, p0, q0, hargs, rfl, rfl, h0, r0⟩ := trodAll_cons hA
  obtain ⟨rfl, rfl, rfl⟩ := trodAll_nil r0
  obtain rfl : args = #[v0] := by cases args; simp_all
  obtain ⟨rfl, rfl⟩ := trodVars_none hV
  obtain ⟨a0, len0, cap0, rfl⟩ := okWide_slice Tryz.underlying22 (hval 0 22 v0 rfl rfl)
  simp only [List.append_nil] at hW'
  have hlt0 : ∀ x ∈ p0, x.block < W.heap.size := fun x hx => hW'.lt x (by simp [hx])
  have h0k : DataW.Trod enc Tryz.prog W 0 (fun _ => true) true 22 (.slice a0 len0 cap0) d0 p0 := h0
  have hargs0 : ∀ (W' : World), Below W.heap.size W W' → DataW.Trod enc Tryz.prog W' 0 (fun b => decide (b < W.heap.size)) true 22 (.slice a0 len0 cap0) d0 p0 :=
    fun W' hn => Below.trod laidOutT (by kernel_rfl) (of_decide_eq_true (by kernel_rfl)) h0k hn hlt0
  have hz := fun el sp i a b c bs h1 h2 => ops_sized (d0 := d0) hsz rfl rfl el sp i a b c bs h1 h2
  clear hA0 hval0 hsz0 hsz
  obtain ⟨D0, N0, B0, S0, hra0⟩ : ∃ D N B S, OpR W a0 len0 D N B S := by
    obtain ⟨fuel, hf⟩ := h0
    obtain ⟨p, len, cap, D, N, B, S, hcs, hp⟩ := open_opsR hf hz
    simp [Value.cells] at hcs
    obtain ⟨rfl, rfl, rfl⟩ := hcs
    exact ⟨D, N, B, S, hp⟩
  refine (plays_walk W a0 len0 cap0 D0 N0 B0 S0 hra0).mono fun e W' ⟨he, bel⟩ => ?_
  subst he
  have hfin : DataW.TrodAll enc Tryz.prog W' 0 (fun b => decide (b < W.heap.size)) true [22] [.slice a0 len0 cap0] [d0] p0 := by
    simpa using (trodAll_cons_mk (hargs0 W' bel) trodAll_mk0)
  exact ⟨_, rfl, _, _, _, [], _, [], hW', trodAll_mk1 (shut_bool Tryz.underlying4 _), hfin, rfl, bel.frame _, fun h => by cases h⟩
end Go.Proofs.YthgclfhfipfknaaGreat

namespace Go.Proofs.YthgclfhfipfknaaGreat
open Go.ChangeShapes Go.WideShapes Go.ChangeAt Go.RowKit Go.Deep
set_option linter.unusedVariables false

set_option maxRecDepth 100000 in
set_option maxHeartbeats 8000000 in
theorem sp_closed : joinedFacts Tryz.prog 3 Tryz.f3 Rows.spillPlaysSpec Rows.spillPlaysRow = true := by
  unfold joinedFacts
  repeat' (with_reducible refine Bool.and_eq_true_iff.2 ⟨?_, ?_⟩)
  all_goals (as_aux_lemma => kernel_rfl)
theorem spillPlays_holds : Rows.SpillPlaysSaid :=
  OpenClaim.holds_of_wide 3 Tryz.f3 rfl rfl rfl rfl rfl rfl rfl ⟨rfl, rfl, rfl, rfl, rfl⟩ rfl rfl rfl rfl rfl (by kernel_rfl) Tryz.func3 sp_closed
    (of_decide_eq_true (by kernel_rfl)) (by unfold Func.isWrapper; first | (rw [if_pos (by decide +kernel)]; kernel_rfl) | (rw [if_neg (by decide +kernel)]; exact ⟨rfl, rfl⟩))
    (fun os started H enc _ => spillPlays_lifted os started H enc)
#print axioms spillPlays_holds
end Go.Proofs.YthgclfhfipfknaaGreat
