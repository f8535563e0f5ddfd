/- The steps that write the log's head. -/
import Derived.Test.YteocmhbllckpjaaGreatX1
import Derived.Test.YteocmhbllckpjaaGreatB6
import Derived.Test.YteocmhbllckpjaaGreatB12
namespace Go.Proofs.YteocmhbllckpjaaGreat
open Go.ChangeShapes Go.WideShapes Go.ChangeAt Go.RowKit
open Go.ChangeMaps (setBlock)
set_option linter.unusedVariables false

abbrev fun4 (f a b c d : Nat) : Value := .func (.func f) #[] #[.pointer (some ⟨a, 0, none⟩), .pointer (some ⟨b, 0, none⟩), .pointer (some ⟨c, 0, none⟩), .pointer (some ⟨d, 0, none⟩)]
abbrev fun3 (f a b c : Nat) : Value := .func (.func f) #[] #[.pointer (some ⟨a, 0, none⟩), .pointer (some ⟨b, 0, none⟩), .pointer (some ⟨c, 0, none⟩)]
abbrev fun2 (f a b : Nat) : Value := .func (.func f) #[] #[.pointer (some ⟨a, 0, none⟩), .pointer (some ⟨b, 0, none⟩)]
/-- A log's own cells. -/
abbrev lc (b : Nat) (tx : ByteArray) (la : Int) : Array Value := #[.pointer (some ⟨b, 0, none⟩), .string tx, .int .i64 la]
/-- The cells of a log, as loads meet them. -/
def Lc (V : World) (g b : Nat) (tx : ByteArray) (la : Int) : Prop := V.cell? ⟨g, 0, none⟩ = some (.pointer (some ⟨b, 0, none⟩)) ∧ V.cell? ⟨g, 1, none⟩ = some (.string tx) ∧ V.cell? ⟨g, 2, none⟩ = some (.int .i64 la)
theorem lc_cells {V : World} {g b : Nat} {tx : ByteArray} {la : Int} (h : Blk V g (lc b tx la) 93) : V.cell? ⟨g, 0, none⟩ = some (.pointer (some ⟨b, 0, none⟩)) ∧ V.cell? ⟨g, 1, none⟩ = some (.string tx) ∧ V.cell? ⟨g, 2, none⟩ = some (.int .i64 la) := ⟨(h.cell 0).trans rfl, (h.cell 1).trans rfl, (h.cell 2).trans rfl⟩
theorem blk_drew {w : World} {k : Nat} {c : Array Value} {t : TypeId} (h : Blk w k c t) : Blk w.drew k c t := h

set_option maxHeartbeats 2000000 in
set_option maxRecDepth 10000 in
theorem putHead_w (w : World) (b : Nat) (tx : ByteArray) (la : Int) (x : Nat) (hx : x < 4294967296) :
    Calls Tryz.prog 92 #[.agg #[.pointer (some ⟨b, 0, none⟩), .string tx, .int .i64 la], .int .i64 (x : Int)] w fun e w' => (∃ v, e = .returned v ∧ SV w' b (.put nmJ 0 (bstr (sealB x 0 0 0))) v) ∧ w.grownBy w' none := by
  have hb0 : Blk (w.alloc (.cells #[.pointer (some ⟨b, 0, none⟩), .string tx, .int .i64 la] 93)) w.heap.size (lc b tx la) 93 := alloc_new _ _
  have HG := hideJ (World.grownBy_alloc w (.cells #[.pointer (some ⟨b, 0, none⟩), .string tx, .int .i64 la] 93) none)
  have HB := hideJ hb0
  have hw0 : IntKind.u32.wrap (x : Int) = (x : Int) := by rw [IntKind.wrap_u32]; omega
  have HSe : Hid (∀ V, Calls Tryz.prog 128 #[.agg #[.int .u32 (x : Int), .int .u32 0, .int .u32 0, .int .u32 0]] V fun e w' => e = .returned (.agg (bcs (sealB x 0 0 0)).toArray) ∧ V.grownBy w' none) := fun V => seal_any V x 0 0 0 hx (by omega) (by omega) (by omega)
  have hl := sealB_length x 0 0 0
  have HI := hideJ info40s
  have HI2 := hideJ (size97 hl)
  have HN := hideJ new64
  have HA := hideJ (bytes_all (sealB x 0 0 0))
  obtain ⟨s, hs⟩ : ∃ s, s = bstr (sealB x 0 0 0) := ⟨_, rfl⟩
  have HCv : Hid (∀ V g, Blk V g (bcs (sealB x 0 0 0)).toArray 110 → (convert 62 9 (.slice (some ⟨g, 0, none⟩) 64 64)).run Tryz.prog V = .ok (.string s) V) := fun V g h => by rw [hs]; exact conv_blk hl h 64
  have HSz : Hid ((bcs (sealB x 0 0 0)).toArray.size = (bcs z64).toArray.size) := by show _ = _; rw [List.size_toArray, length_bcs, hl]; rfl
  rw [← hs]
  generalize sealB x 0 0 0 = L at HSe HI2 HA HCv HSz
  clear hb0 hx hl hs
  go_enter Tryz.func92, Tryz.ntmps92
  go_upto_region 2 with (first
    | (go_at_call 128; (with_reducible refine Calls.mono (HSe.out _) ?_); rintro e w4 ⟨rfl, hg⟩; have HG4 := hideJ (grown_trans' HG.out hg); have HB4 := hideJ (Blk.grown HB.out hg); clear hg)
    | ((with_reducible refine at97S ?_); refine wp_storeB (c := (bcs L).toArray) HI2.out HSz.out HA.out (HN.out _) _ _ (by rfl) (by rfl) (by rfl) (by rfl) ?_; intro W5 hb5 ho5; have HB5 := hideJ hb5; have HG5 := hideJ (grown_only (grown_trans' HG4.out (World.grownBy_alloc _ _ _)) ho5 HG4.out.size); have HW5 := hideJ (Blk.allocO HB4.out ho5); clear hb5 ho5))
  have HSG : Hid (∀ V, W5.drew.grownBy V none → V.cell? ⟨w.heap.size, 0, none⟩ = some (.pointer (some ⟨b, 0, none⟩)) ∧ V.cell? ⟨w.heap.size, 1, none⟩ = some (.string tx) ∧ V.cell? ⟨w.heap.size, 2, none⟩ = some (.int .i64 la) ∧ (convert 62 9 (.slice (some ⟨w4.heap.size, 0, none⟩) 64 64)).run Tryz.prog V = .ok (.string s) V) := fun V hV => by
    have h1 := lc_cells ((blk_drew HW5.out).grown hV)
    exact ⟨h1.1, h1.2.1, h1.2.2, HCv.out V w4.heap.size ((blk_drew HB5.out).grown hV)⟩
  have HS0 := hideJ (HSG.out W5.drew ⟨rfl, rfl, rfl, Nat.le_refl _, fun _ _ _ => rfl⟩)
  have HPc := hideJ (fun V => put_c V b tx la nmJ s 0)
  go_region_held3 (fun V => V.cell? ⟨w.heap.size, 0, none⟩ = some (.pointer (some ⟨b, 0, none⟩)) ∧ V.cell? ⟨w.heap.size, 1, none⟩ = some (.string tx) ∧ V.cell? ⟨w.heap.size, 2, none⟩ = some (.int .i64 la) ∧ (convert 62 9 (.slice (some ⟨w4.heap.size, 0, none⟩) 64 64)).run Tryz.prog V = .ok (.string s) V) (first | with_reducible exact HS0.out | with_reducible exact HS6.out) (first
    | (go_at_call 89; (with_reducible refine Calls.mono (HPc.out _) ?_); rintro e w6 ⟨⟨v6, rfl, hv6⟩, hg⟩; have HV6 := hideJ hv6; have HG6 := hideJ hg; have HS6 := hideJ (HSG.out _ hg); clear hv6 hg))
  all_goals (try go_wp2)
  go_ret
  exact ⟨⟨v6, rfl, HV6.out⟩, grown_trans' (grown_trans' HG5.out (World.grownBy_drew _)) HG6.out⟩

/-- Steps in a row of their own. -/
def StO (w : World) (base b : Nat) (v : Value) (n : Nat) (S : Nat → Stp) : Prop := ∃ vs : List Value, w.ownsRow base 171 1 v n vs ∧ vs.length = n ∧ ∀ k u, vs[k]? = some u → SV w b (S k) u
theorem StO.form {w : World} {base b : Nat} {v : Value} {n : Nat} {S : Nat → Stp} (h : StO w base b v n S) : ∃ p cap, v = .slice p n cap ∧ StA w b p n S := by
  obtain ⟨vs, h1, h2, h3⟩ := h
  rcases h1.2 with ⟨rfl, h0⟩ | ⟨g, cap, cur, rfl, hb, hg, hnc, hcm, hcs, htake⟩
  · exact ⟨none, 0, by rw [h0], fun h => by omega⟩
  · refine ⟨_, cap, rfl, fun _ => ⟨g, cur, rfl, hg, fun k hk => ?_⟩⟩
    have hx : vs[k]? = some vs[k] := List.getElem?_eq_getElem (by omega)
    refine ⟨vs[k], ?_, h3 k _ hx⟩
    have := h1.cells (g := g) rfl k _ hx
    rw [show (⟨g, 0, none⟩ : Addr).add k = ⟨g, k, none⟩ by unfold Addr.add; split <;> simp_all, Blk.cell hg] at this
    exact this
theorem StO.grown {w w' : World} {base b : Nat} {v : Value} {n : Nat} {S : Nat → Stp} (h : StO w base b v n S) (hg : w.grownBy w' none) : StO w' base b v n S := by
  obtain ⟨vs, h1, h2, h3⟩ := h
  exact ⟨vs, ownsRow_only h1 (Only.of_grown hg) (by simp), h2, fun k u hk => (h3 k u hk).grown hg⟩

theorem own_lit (w : World) {base : Nat} (hb : base ≤ w.heap.size) (vs : List Value) (n : Nat) (hn : vs.length = n) (hm : n ≤ 1000) : (w.alloc (.cells vs.toArray 171)).ownsRow base 171 1 (.slice (some ⟨w.heap.size, 0, none⟩) n n) n vs :=
  ⟨by omega, .inr ⟨w.heap.size, n, vs.toArray, rfl, hb, heap_alloc_new w _, Nat.le_refl _, by simp only [maxLen]; omega, by simp; omega, by rw [List.toList_toArray, List.take_of_length_le (by omega)]⟩⟩
theorem sv_put {w : World} {b at_ : Nat} {nm d : ByteArray} {v : Value} (h : SV w b (.put nm at_ d) v) : ∃ a1 a2 a3 a4, v = fun4 124 a1 a2 a3 a4 := by
  obtain ⟨a1, a2, a3, a4, h, _⟩ := h; exact ⟨a1, a2, a3, a4, h⟩
theorem sv_sync {w : World} {b : Nat} {nm : ByteArray} {v : Value} (h : SV w b (.sync nm) v) : ∃ a1 a2, v = fun2 126 a1 a2 := by
  obtain ⟨a1, a2, h, _⟩ := h; exact ⟨a1, a2, h⟩
set_option maxHeartbeats 2000000 in
set_option maxRecDepth 10000 in
theorem renew_w (w : World) (b : Nat) (tx : ByteArray) (K : Nat) (hK : K < 4294967296) :
    Calls Tryz.prog 88 #[.agg #[.pointer (some ⟨b, 0, none⟩), .string tx, .int .i64 (K : Int)]] w fun e w' => (∃ v, e = .returned v ∧ StO w' w.heap.size b v 2 (hdSt (sealB K 0 0 0))) ∧ w.grownBy w' none := by
  have hb0 : Blk (w.alloc (.cells #[.pointer (some ⟨b, 0, none⟩), .string tx, .int .i64 (K : Int)] 93)) w.heap.size (lc b tx (K : Int)) 93 := alloc_new _ _
  have HG := hideJ (World.grownBy_alloc w (.cells #[.pointer (some ⟨b, 0, none⟩), .string tx, .int .i64 (K : Int)] 93) none)
  have HB := hideJ hb0
  have HPh := hideJ (fun V => putHead_w V b tx (K : Int) K hK)
  have HSy := hideJ (fun V => sync_c V b tx (K : Int) nmJ)
  clear hb0
  go_enter Tryz.func88, Tryz.ntmps88
  go_wp2_with fail
  have HSG : Hid (∀ V, (w.alloc (.cells #[.pointer (some ⟨b, 0, none⟩), .string tx, .int .i64 (K : Int)] 93)).drew.grownBy V none → V.cell? ⟨w.heap.size, 0, none⟩ = some (.pointer (some ⟨b, 0, none⟩)) ∧ V.cell? ⟨w.heap.size, 1, none⟩ = some (.string tx) ∧ V.cell? ⟨w.heap.size, 2, none⟩ = some (.int .i64 (K : Int))) := fun V hV => lc_cells ((blk_drew HB.out).grown hV)
  have HD0 : Hid (w.grownBy (w.alloc (.cells #[.pointer (some ⟨b, 0, none⟩), .string tx, .int .i64 (K : Int)] 93)).drew none) := grown_trans' HG.out (World.grownBy_drew _)
  have HS0 := hideJ (HSG.out _ ⟨rfl, rfl, rfl, Nat.le_refl _, fun _ _ _ => rfl⟩)
  go_region_held3 (fun V => V.cell? ⟨w.heap.size, 0, none⟩ = some (.pointer (some ⟨b, 0, none⟩)) ∧ V.cell? ⟨w.heap.size, 1, none⟩ = some (.string tx) ∧ V.cell? ⟨w.heap.size, 2, none⟩ = some (.int .i64 (K : Int))) (first | with_reducible exact HS0.out | with_reducible exact HS2.out | with_reducible exact HS3.out | with_reducible exact HS4.out) (first
    | (go_at_call 92; (with_reducible refine Calls.mono (HPh.out _) ?_); rintro e w2 ⟨⟨v2, rfl, a1, a2, a3, a4, rfl, hv2⟩, hg⟩; have HV2 := hideJ hv2; have HG2 := hideJ hg; have HS2 := hideJ (HSG.out _ hg); clear hv2 hg)
    | (go_at_call 91; (with_reducible refine Calls.mono (HSy.out _) ?_); rintro e w3 ⟨⟨v3, rfl, c1, c2, rfl, hv3⟩, hg⟩; have HV3 := hideJ hv3; have HG23 := hideJ hg; have HG3 := hideJ (grown_trans' HG2.out hg); have HS3 := hideJ (HSG.out _ (grown_trans' HG2.out hg)); have HS4 := hideJ (HSG.out _ (grown_trans' (grown_trans' HG2.out hg) (World.grownBy_alloc w3 (.cells #[fun4 124 a1 a2 a3 a4, fun2 126 c1 c2] 171) none))); clear hv3 hg))
  all_goals (try go_wp2)
  go_ret
  have hgA := World.grownBy_alloc w3 (.cells [fun4 124 a1 a2 a3 a4, fun2 126 c1 c2].toArray 171) none
  have hgW := grown_trans' (grown_trans' HD0.out HG3.out) hgA
  refine ⟨⟨_, rfl, [fun4 124 a1 a2 a3 a4, fun2 126 c1 c2], own_lit w3 (grown_trans' HD0.out HG3.out).size _ 2 rfl (by omega), rfl, fun k u hk => ?_⟩, hgW⟩
  match k, hk with
  | 0, hk =>
    cases hk
    have h2 : SV w2 b (.put nmJ 0 (bstr (sealB K 0 0 0))) (fun4 124 a1 a2 a3 a4) := ⟨a1, a2, a3, a4, rfl, HV2.out⟩
    exact (h2.grown HG23.out).grown hgA
  | 1, hk =>
    cases hk
    have h3 : SV w3 b (.sync nmJ) (fun2 126 c1 c2) := ⟨c1, c2, rfl, HV3.out⟩
    exact h3.grown hgA
end Go.Proofs.YteocmhbllckpjaaGreat
