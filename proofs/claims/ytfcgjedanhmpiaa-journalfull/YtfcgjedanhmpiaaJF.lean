/- The steps that write the journal's head. -/
import Derived.Test.YtfcgjedanhmpiaaJE
namespace Go.Proofs.Ytfcgjedanhmpiaa
open Go.ChangeShapes Go.WideShapes Go.ChangeAt Go.RowKit
open Go.ChangeMaps (setBlock)
set_option linter.unusedVariables false

theorem conv_blk {w : World} {g : Nat} {l : List UInt8} {t : TypeId} {n : Nat} (hn : l.length = n) (hb : Blk w g (bcs l).toArray t) (c : Nat) : (convert 43 9 (.slice (some ⟨g, 0, none⟩) n c)).run Try.prog w = .ok (.string (bstr l)) w := by
  subst hn
  have hcell : ∀ i, i < l.length → w.cell? ⟨g, 0 + i, none⟩ = some (.int .u8 ((l.map fun b => (b.toNat : Int)).getD i 0)) := fun i hi => by
    rw [Nat.zero_add, hb.cell]
    simp [bcs, hi, List.getD]
  have hcv := run_convert_bytes_arg (P := Try.prog) w 43 5 Try.underlying43 Try.underlying5 g 0 l.length c (l.map fun b => (b.toNat : Int)) (by simp) hcell 9 Try.underlying9
  rw [strOfNums_bstr] at hcv
  exact hcv
theorem sealB_length (a b c d : Nat) : (sealB a b c d).length = 64 := length_laid a b c d 12 (by omega)

set_option maxHeartbeats 2000000 in
set_option maxRecDepth 10000 in
theorem putHead_j (w : World) (b : Nat) (x y z u : Nat) (hx : x < 4294967296) (hy : y < 4294967296) (hz : z < 4294967296) (hu : u < 4294967296) :
    Calls Try.prog 42 #[.agg #[.pointer (some ⟨b, 0, none⟩)], .agg #[.int .u32 x, .int .u32 y, .int .u32 z, .int .u32 u]] w fun e w' => (∃ v, e = .returned v ∧ SV w' b (.put nmJ 0 (bstr (sealB x y z u))) v) ∧ w.grownBy w' none := by
  have hbn := blk_next w #[.pointer (some ⟨b, 0, none⟩)] #[.int .u32 x, .int .u32 y, .int .u32 z, .int .u32 u] 53 63
  have HG : Hid (w.grownBy ((w.alloc (.cells #[.pointer (some ⟨b, 0, none⟩)] 53)).alloc (.cells #[.int .u32 x, .int .u32 y, .int .u32 z, .int .u32 u] 63)) none) := grown_trans' (World.grownBy_alloc _ _ _) (World.grownBy_alloc _ _ _)
  have HB := hideJ hbn.1
  have HW := hideJ hbn.2
  have HSe := hideJ (fun V => seal_any V x y z u hx hy hz hu)
  have hl := sealB_length x y z u
  have HI := hideJ info40s
  have HI2 := hideJ (size97 hl)
  have HN := hideJ new64
  have HA := hideJ (bytes_all (sealB x y z u))
  obtain ⟨s, hs⟩ : ∃ s, s = bstr (sealB x y z u) := ⟨_, rfl⟩
  have HCv : Hid (∀ V g, Blk V g (bcs (sealB x y z u)).toArray 97 → (convert 43 9 (.slice (some ⟨g, 0, none⟩) 64 64)).run Try.prog V = .ok (.string s) V) := fun V g h => by rw [hs]; exact conv_blk hl h 64
  have HSz : Hid ((bcs (sealB x y z u)).toArray.size = (bcs z64).toArray.size) := by show _ = _; rw [List.size_toArray, length_bcs, hl]; rfl
  rw [← hs]
  generalize sealB x y z u = L at HSe HI2 HA HCv HSz
  clear hbn hx hy hz hu hl hs
  go_enter Try.func42, Try.ntmps42
  go_upto_region 2 with (first
    | ((with_reducible refine at63L ?_); refine wp_loadB (c := #[.int .u32 x, .int .u32 y, .int .u32 z, .int .u32 u]) HI.out u63 HW.out _ (by rfl) (by rfl) (by rfl) ?_)
    | (go_at_call 57; (with_reducible refine Calls.mono (HSe.out _) ?_); rintro e w4 ⟨rfl, hg⟩; have HG4 := hideJ (grown_trans' HG.out hg); have HB4 := hideJ (Blk.grown HB.out hg); clear hg)
    | ((with_reducible refine at97S ?_); refine wp_storeB (c := (bcs L).toArray) HI2.out HSz.out HA.out (HN.out _) _ _ (by rfl) (by rfl) (by rfl) (by rfl) ?_; intro W5 hb5 ho5; have HB5 := hideJ hb5; have HG5 := hideJ (grown_only (grown_trans' HG4.out (World.grownBy_alloc _ _ _)) ho5 HG4.out.size); have HW5 := hideJ (Blk.allocO HB4.out ho5); clear hb5 ho5))
  have HSG : Hid (∀ V, W5.drew.grownBy V none → V.cell? ⟨w.heap.size, 0, none⟩ = some (.pointer (some ⟨b, 0, none⟩)) ∧ (convert 43 9 (.slice (some ⟨w4.heap.size, 0, none⟩) 64 64)).run Try.prog V = .ok (.string s) V) := fun V hV => by
    have h1 : Blk W5.drew w.heap.size #[.pointer (some ⟨b, 0, none⟩)] 53 := HW5.out
    have h2 : Blk W5.drew w4.heap.size (bcs L).toArray 97 := HB5.out
    exact ⟨((h1.grown hV).cell 0).trans rfl, HCv.out V w4.heap.size (h2.grown hV)⟩
  have HS0 := hideJ (HSG.out W5.drew ⟨rfl, rfl, rfl, Nat.le_refl _, fun _ _ _ => rfl⟩)
  have HPc := hideJ (fun V => put_c V b nmJ s 0)
  go_region_held3 (fun V => V.cell? ⟨w.heap.size, 0, none⟩ = some (.pointer (some ⟨b, 0, none⟩)) ∧ (convert 43 9 (.slice (some ⟨w4.heap.size, 0, none⟩) 64 64)).run Try.prog V = .ok (.string s) V) (first | with_reducible exact HS0.out | with_reducible exact HS6.out) (first
    | (go_at_call 39; (with_reducible refine Calls.mono (HPc.out _) ?_); rintro e w6 ⟨⟨v6, rfl, hv6⟩, hg⟩; have HV6 := hideJ hv6; have HG6 := hideJ hg; have HS6 := hideJ (HSG.out _ hg); clear hv6 hg))
  all_goals (try go_wp2)
  go_ret
  exact ⟨⟨v6, rfl, HV6.out⟩, grown_trans' (grown_trans' HG5.out (World.grownBy_drew _)) HG6.out⟩

abbrev fun4 (f a b c d : Nat) : Value := .func (.func f) #[] #[.pointer (some ⟨a, 0, none⟩), .pointer (some ⟨b, 0, none⟩), .pointer (some ⟨c, 0, none⟩), .pointer (some ⟨d, 0, none⟩)]
abbrev fun3 (f a b c : Nat) : Value := .func (.func f) #[] #[.pointer (some ⟨a, 0, none⟩), .pointer (some ⟨b, 0, none⟩), .pointer (some ⟨c, 0, none⟩)]
abbrev fun2 (f a b : Nat) : Value := .func (.func f) #[] #[.pointer (some ⟨a, 0, none⟩), .pointer (some ⟨b, 0, none⟩)]
/-- A head as it is, written anew. -/
def hdS (l : List UInt8) : ByteArray := bstr (sealB (hdw l 0) (hdw l 1) (hdw l 2) (hdw l 3))
def renS (l : List UInt8) : Nat → Stp
  | 0 => .put nmJ 0 (hdS l)
  | _ => .sync nmJ
/-- Steps in a row of their own. -/
def StO (w : World) (base b : Nat) (v : Value) (n : Nat) (S : Nat → Stp) : Prop := ∃ vs : List Value, w.ownsRow base 82 1 v n vs ∧ vs.length = n ∧ ∀ k u, vs[k]? = some u → SV w b (S k) u
theorem StO.form {w : World} {base b : Nat} {v : Value} {n : Nat} {S : Nat → Stp} (h : StO w base b v n S) : ∃ p cap, v = .slice p n cap ∧ StA w b p n S := by
  obtain ⟨vs, h1, h2, h3⟩ := h
  rcases h1.2 with ⟨rfl, h0⟩ | ⟨g, cap, cur, rfl, hb, hg, hnc, hcm, hcs, htake⟩
  · exact ⟨none, 0, by rw [h0], fun h => by omega⟩
  · refine ⟨_, cap, rfl, fun _ => ⟨g, cur, rfl, hg, fun k hk => ?_⟩⟩
    have hx : vs[k]? = some vs[k] := List.getElem?_eq_getElem (by omega)
    refine ⟨vs[k], ?_, h3 k _ hx⟩
    have := h1.cells (g := g) rfl k _ hx
    rw [show (⟨g, 0, none⟩ : Addr).add k = ⟨g, k, none⟩ by unfold Addr.add; split <;> simp_all, Blk.cell hg] at this
    exact this
theorem StO.grown {w w' : World} {base b : Nat} {v : Value} {n : Nat} {S : Nat → Stp} (h : StO w base b v n S) (hg : w.grownBy w' none) : StO w' base b v n S := by
  obtain ⟨vs, h1, h2, h3⟩ := h
  exact ⟨vs, ownsRow_only h1 (Only.of_grown hg) (by simp), h2, fun k u hk => (h3 k u hk).grown hg⟩

theorem own_lit (w : World) {base : Nat} (hb : base ≤ w.heap.size) (vs : List Value) (n : Nat) (hn : vs.length = n) (hm : n ≤ 1000) : (w.alloc (.cells vs.toArray 82)).ownsRow base 82 1 (.slice (some ⟨w.heap.size, 0, none⟩) n n) n vs :=
  ⟨by omega, .inr ⟨w.heap.size, n, vs.toArray, rfl, hb, heap_alloc_new w _, Nat.le_refl _, by simp only [maxLen]; omega, by simp; omega, by rw [List.toList_toArray, List.take_of_length_le (by omega)]⟩⟩
set_option maxHeartbeats 2000000 in
set_option maxRecDepth 10000 in
theorem renew_j (w : World) (base b : Nat) (D : DS) (who : Nat → Nat) (R : Rep w base b D who) {r : Int} {i : Nat} (h : JI r D i) :
    Calls Try.prog 36 #[.agg #[.pointer (some ⟨b, 0, none⟩)]] w fun e w' => (∃ v, e = .returned v ∧ StO w' w.heap.size b v 2 (renS (seenOf D nmJ))) ∧ w.grownBy w' none := by
  have hg0 := World.grownBy_alloc w (.cells #[.pointer (some ⟨b, 0, none⟩)] 53) none
  have hb0 : Blk (w.alloc (.cells #[.pointer (some ⟨b, 0, none⟩)] 53)) w.heap.size #[.pointer (some ⟨b, 0, none⟩)] 53 := alloc_new _ _
  have HHd : Hid (∀ V, w.grownBy V none → Calls Try.prog 29 #[.agg #[.pointer (some ⟨b, 0, none⟩)]] V fun e w' => e = .returned (.agg #[.int .u32 (hdw (seenOf D nmJ) 0), .int .u32 (hdw (seenOf D nmJ) 1), .int .u32 (hdw (seenOf D nmJ) 2), .int .u32 (hdw (seenOf D nmJ) 3)]) ∧ V.grownBy w' none) := fun V hV => by
    rw [← hd_eq]; exact head_j V base b D who (R.keep hV) h
  have HPh := hideJ (fun V => putHead_j V b (hdw (seenOf D nmJ) 0) (hdw (seenOf D nmJ) 1) (hdw (seenOf D nmJ) 2) (hdw (seenOf D nmJ) 3) (hdw_lt _ _) (hdw_lt _ _) (hdw_lt _ _) (hdw_lt _ _))
  have HSy := hideJ (fun V => sync_c V b nmJ)
  have HG := hideJ hg0
  have HB := hideJ hb0
  clear R h hg0 hb0
  go_enter Try.func36, Try.ntmps36
  go_wp2_with fail
  have HSG : Hid (∀ V, (w.alloc (.cells #[.pointer (some ⟨b, 0, none⟩)] 53)).drew.grownBy V none → V.cell? ⟨w.heap.size, 0, none⟩ = some (.pointer (some ⟨b, 0, none⟩))) := fun V hV => by
    have h1 : Blk (w.alloc (.cells #[.pointer (some ⟨b, 0, none⟩)] 53)).drew w.heap.size #[.pointer (some ⟨b, 0, none⟩)] 53 := HB.out
    exact ((h1.grown hV).cell 0).trans rfl
  have HD0 : Hid (w.grownBy (w.alloc (.cells #[.pointer (some ⟨b, 0, none⟩)] 53)).drew none) := grown_trans' HG.out (World.grownBy_drew _)
  have HS0 := hideJ (HSG.out _ ⟨rfl, rfl, rfl, Nat.le_refl _, fun _ _ _ => rfl⟩)
  go_region_held3 (fun V => V.cell? ⟨w.heap.size, 0, none⟩ = some (.pointer (some ⟨b, 0, none⟩))) (first | with_reducible exact HS0.out | with_reducible exact HS1.out | with_reducible exact HS2.out | with_reducible exact HS3.out | with_reducible exact HS4.out) (first
    | (go_at_call 29; (with_reducible refine Calls.mono (HHd.out _ HD0.out) ?_); rintro e w1 ⟨rfl, hg⟩; have HG1 := hideJ hg; have HS1 := hideJ (HSG.out _ hg); clear hg)
    | (go_at_call 42; (with_reducible refine Calls.mono (HPh.out _) ?_); rintro e w2 ⟨⟨v2, rfl, a1, a2, a3, a4, rfl, hv2⟩, hg⟩; have HV2 := hideJ hv2; have HG2 := hideJ (grown_trans' HG1.out hg); have HS2 := hideJ (HSG.out _ (grown_trans' HG1.out hg)); clear hv2 hg)
    | (go_at_call 41; (with_reducible refine Calls.mono (HSy.out _) ?_); rintro e w3 ⟨⟨v3, rfl, c1, c2, rfl, hv3⟩, hg⟩; have HV3 := hideJ hv3; have HG23 := hideJ hg; have HG3 := hideJ (grown_trans' HG2.out hg); have HS3 := hideJ (HSG.out _ (grown_trans' HG2.out hg)); have HS4 := hideJ (HSG.out _ (grown_trans' (grown_trans' HG2.out hg) (World.grownBy_alloc w3 (.cells #[fun4 53 a1 a2 a3 a4, fun2 55 c1 c2] 82) none))); clear hv3 hg))
  all_goals (try go_wp2)
  go_ret
  have hgA := World.grownBy_alloc w3 (.cells [fun4 53 a1 a2 a3 a4, fun2 55 c1 c2].toArray 82) none
  have hgW := grown_trans' (grown_trans' HD0.out HG3.out) hgA
  refine ⟨⟨_, rfl, [fun4 53 a1 a2 a3 a4, fun2 55 c1 c2], own_lit w3 (grown_trans' HD0.out HG3.out).size _ 2 rfl (by omega), rfl, fun k u hk => ?_⟩, hgW⟩
  match k, hk with
  | 0, hk =>
    cases hk
    have h2 : SV w2 b (.put nmJ 0 (hdS (seenOf D nmJ))) (fun4 53 a1 a2 a3 a4) := ⟨a1, a2, a3, a4, rfl, HV2.out⟩
    exact (h2.grown HG23.out).grown hgA
  | 1, hk =>
    cases hk
    have h3 : SV w3 b (.sync nmJ) (fun2 55 c1 c2) := ⟨c1, c2, rfl, HV3.out⟩
    exact h3.grown hgA
end Go.Proofs.Ytfcgjedanhmpiaa
