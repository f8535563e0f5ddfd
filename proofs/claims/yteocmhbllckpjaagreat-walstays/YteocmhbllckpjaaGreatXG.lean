/- The steps of a commit. -/
import Derived.Test.YteocmhbllckpjaaGreatXD
import Derived.Test.YteocmhbllckpjaaGreatXF
import Derived.Test.YteocmhbllckpjaaGreatXH
import Derived.Deep.AppendLies
namespace Go.Proofs.YteocmhbllckpjaaGreat
open Go.ChangeShapes Go.WideShapes Go.ChangeAt Go.RowKit
open Go.ChangeMaps (setBlock)
set_option linter.unusedVariables false

theorem infoF : ∃ i z, Tryz.prog.info? 171 = some i ∧ i.zero = some z ∧ i.size = 1 ∧ i.bytes = 8 ∧ z.cells.size = 1 := by
  have h : (Tryz.prog.info? 171).map (fun i => (i.zero.map (fun z => z.cells.size), i.size, i.bytes)) = some (some 1, 1, 8) := by kernel_rfl
  obtain ⟨i, h1, h2⟩ := Option.map_eq_some_iff.1 h
  simp only [Prod.mk.injEq] at h2
  obtain ⟨z, h3, h4⟩ := Option.map_eq_some_iff.1 h2.1
  exact ⟨i, z, h1, h3, h2.2.1, h2.2.2, h4⟩
/-- What an append leaves alone. -/
structure App (base : Nat) (W w' : World) : Prop where
  grown : ∀ w0 : World, w0.heap.size ≤ base → w0.grownBy W none → w0.grownBy w' none
  blk : ∀ k c t, t ≠ 171 → Blk W k c t → Blk w' k c t
theorem step_appF {ops : Array Oper} {o : Oper} {a : Act} {K : Act → World → Prop} {Q : Exit → Act → World → Prop} {E : Prop} {W : World} {base b n m : Nat} {v : Value} {S S' : Nat → Stp} (vs : List Value) (hst : StO W base b v n S) (hvs : vs.length = m) (hm : 0 < m)
    (hsv : ∀ k u, vs[k]? = some u → SV W b (S' k) u) (hone : ∀ u ∈ vs, u.oneCell' = true) (hn : n + m ≤ 1000) (hbase : base ≤ W.heap.size) (s x : Operand) (hgd : o.guard = none) (ho : o.op = .call { callee := .builtin .append, args := #[s, x], argTypes := #[103, 103] })
    (hs : a.eval s = v) (hx : a.eval x = .slice (some ⟨W.heap.size, 0, none⟩) m m)
    (hk : ∀ p cap w', StO w' base b (.slice p (n + m) cap) (n + m) (catS S n S') → App base W w' → K (a.put o.dst (.slice p (n + m) cap)) w') :
    if Region.wanted o (yielded ops a.tmps) = true then Oper.wp Tryz.prog o a (W.alloc (.cells vs.toArray 171)) K Q else E := by
  obtain ⟨i, z, hi, hz0, hz1, hz2, hz3⟩ := infoF
  obtain ⟨us, hu, hul, hus⟩ := hst
  have hg0 := World.grownBy_alloc W (.cells vs.toArray 171) none
  have hu2 := hu.alloc (.cells vs.toArray 171)
  have hnews : ∀ j u, vs[j]? = some u → (W.alloc (.cells vs.toArray 171)).cell? ((⟨W.heap.size, 0, none⟩ : Addr).add j) = some u := fun j u hj => by
    rw [show (⟨W.heap.size, 0, none⟩ : Addr).add j = ⟨W.heap.size, j, none⟩ by unfold Addr.add; split <;> simp_all]
    have hb : Blk (W.alloc (.cells vs.toArray 171)) W.heap.size vs.toArray 171 := alloc_new _ _
    rw [hb.cell]; simpa using hj
  refine step_append_lies (w := W.alloc (.cells vs.toArray 171)) hgd s x 103 ho base 171 i z 1 8 Tryz.underlying103 hi hz0 hz1 hz2 hz3 (by omega) v n us hs hu2 ⟨W.heap.size, 0, none⟩ m m vs hx (by omega) hnews hone hm (by simp only [maxLen]; omega) (by omega) (by simp; omega) _ rfl ?_
  intro g cap w' hown hgr hgg hlt
  have hblk : ∀ k c t, t ≠ 171 → Blk W k c t → Blk w' k c t := fun k c t ht hb => by
    refine (hgr.block k (by have := hb.lt; simp; omega) (fun e => ?_)).trans ((Below.heap_alloc _ _ _ hb.lt).trans hb)
    exact ht (own_type hu e.symm hb)
  refine hk _ _ _ ⟨us ++ vs, hown, by simp; omega, fun k u hk => ?_⟩ ⟨fun w0 h0 hW => ?_, hblk⟩
  · have hmap : ∀ s, SV W b s u → SV w' b s u := fun s h => h.map (fun k c t ht hb => hblk k c t (by rcases ht with rfl | rfl | rfl <;> decide) hb)
    unfold catS
    by_cases hlt : k < n
    · rw [if_pos hlt]
      rw [List.getElem?_append_left (by omega)] at hk
      exact hmap _ (hus k u hk)
    · rw [if_neg hlt]
      rw [List.getElem?_append_right (by omega), hul] at hk
      exact hmap _ (hsv _ u hk)
  · refine ⟨hgr.os.trans hW.os, hgr.tape.trans hW.tape, hgr.output.trans hW.output, Nat.le_trans hW.size (Nat.le_trans (by simp) hgr.size), fun k hk hn => ?_⟩
    have hkW : k < W.heap.size := Nat.lt_of_lt_of_le hk hW.size
    refine (hgr.block k (by simp; omega) (fun e => ?_)).trans ((Below.heap_alloc _ _ _ hkW).trans (hW.block k hk hn))
    have := (hu.lt k e.symm).1
    omega

theorem mkPut {V : World} {b at_ a1 a2 a3 a4 : Nat} {nm d : ByteArray} (h : Rc V a1 b ∧ Blk V a2 #[.string nm] 9 ∧ Blk V a3 #[.int .i64 (at_ : Int)] 3 ∧ Blk V a4 #[.string d] 9) : SV V b (.put nm at_ d) (fun4 124 a1 a2 a3 a4) := ⟨a1, a2, a3, a4, rfl, h⟩
theorem mkCut {V : World} {b n a1 a2 a3 : Nat} {nm : ByteArray} (h : Rc V a1 b ∧ Blk V a2 #[.string nm] 9 ∧ Blk V a3 #[.int .i64 (n : Int)] 3) : SV V b (.cut nm n) (fun3 132 a1 a2 a3) := ⟨a1, a2, a3, rfl, h⟩
theorem mkSync {V : World} {b a1 a2 : Nat} {nm : ByteArray} (h : Rc V a1 b ∧ Blk V a2 #[.string nm] 9) : SV V b (.sync nm) (fun2 126 a1 a2) := ⟨a1, a2, rfl, h⟩
theorem App.lcb {base : Nat} {W w' : World} (h : App base W w') {k b : Nat} {tx : ByteArray} {la : Int} (hb : Blk W k (lc b tx la) 93) : Blk w' k (lc b tx la) 93 := h.blk _ _ _ (by decide) hb
theorem App.frame {base : Nat} {W w' : World} (h : App base W w') {k : Nat} {c : Array Value} (hb : Blk W k c 167) : Blk w' k c 167 := h.blk _ _ _ (by decide) hb
theorem three_sv {V : World} {b old c1 c2 a1 a2 a3 a4 d1 d2 m : Nat} (h1 : SV V b (.sync nmJ) (fun2 126 c1 c2)) (h2 : SV V b (.put nmJ 0 (bstr (sealB m old 0 0))) (fun4 124 a1 a2 a3 a4)) (h3 : SV V b (.sync nmJ) (fun2 126 d1 d2)) : ∀ k u, [fun2 126 c1 c2, fun4 124 a1 a2 a3 a4, fun2 126 d1 d2][k]? = some u → SV V b (tailS m old k) u
  | 0, u, h => by cases h; exact h1
  | 1, u, h => by cases h; exact h2
  | 2, u, h => by cases h; exact h3
theorem three_oneF {c1 c2 a1 a2 a3 a4 d1 d2 : Nat} : ∀ u ∈ [fun2 126 c1 c2, fun4 124 a1 a2 a3 a4, fun2 126 d1 d2], u.oneCell' = true := by
  intro u hu
  simp at hu
  rcases hu with rfl | rfl | rfl <;> rfl
theorem one_sv {V : World} {b : Nat} {s : Stp} {v : Value} (h : SV V b s v) : ∀ (k : Nat) (u : Value), [v][k]? = some u → SV V b s u
  | 0, u, hk => by cases hk; exact h
theorem StO.congr {w : World} {base b : Nat} {v : Value} {n : Nat} {S S' : Nat → Stp} (h : StO w base b v n S) (he : ∀ k, k < n → S k = S' k) : StO w base b v n S' := by
  obtain ⟨vs, h1, h2, h3⟩ := h
  exact ⟨vs, h1, h2, fun k u hk => by rw [← he k (by have := (List.getElem?_eq_some_iff.1 hk).1; omega)]; exact h3 k u hk⟩


set_option maxHeartbeats 8000000 in
set_option maxRecDepth 20000 in
theorem grow_w (w : World) (b : Nat) (tx : ByteArray) (K m : Nat) (hKm : K + m ≤ 190) (N E : Nat → Nat) (P : Nat → List UInt8) (ha : Fra N E P) (g : Nat) (hF : FrM w g m (fun k => fcl (N (K + k) : Int) (P (K + k)) (E (K + k)) false)) :
    Calls Tryz.prog 49 #[.agg #[.pointer (some ⟨b, 0, none⟩), .string tx, .int .i64 (K : Int)], .slice (some ⟨g, 0, none⟩) m m] w fun e w' => (∃ q c', e = .returned (.slice q (2 + m + 3) c') ∧ StA w' b q (2 + m + 3) (grwS K m N E P)) ∧ w.grownBy w' none := by
  have hb0 : Blk (w.alloc (.cells #[.pointer (some ⟨b, 0, none⟩), .string tx, .int .i64 (K : Int)] 93)) w.heap.size (lc b tx (K : Int)) 93 := alloc_new _ _
  have HG := hideJ (World.grownBy_alloc w (.cells #[.pointer (some ⟨b, 0, none⟩), .string tx, .int .i64 (K : Int)] 93) none)
  have HB := hideJ hb0
  have HF := hideJ hF
  have HFa := hideJ ha
  have HRn := hideJ (fun V => renew_w V b tx K (by omega))
  have HSy := hideJ (fun V => sync_c V b tx (K : Int) nmJ)
  have HPh : Hid (∀ V, Calls Tryz.prog 92 #[.agg #[.pointer (some ⟨b, 0, none⟩), .string tx, .int .i64 (K : Int)], .int .i64 ((K : Int) + (m : Int))] V fun e w' => (∃ v, e = .returned v ∧ SV w' b (.put nmJ 0 (bstr (sealB (K + m) 0 0 0))) v) ∧ V.grownBy w' none) := fun V => by
    have := putHead_w V b tx (K : Int) (K + m) (by omega)
    rwa [show ((K + m : Nat) : Int) = (K : Int) + (m : Int) by omega] at this
  have HM : Hid (K + m ≤ 190) := hKm
  have hwK : IntKind.i64.wrap ((K : Int) + (m : Int)) = (K : Int) + (m : Int) := by rw [IntKind.wrap_i64]; omega
  have hwK1 : IntKind.i64.wrap ((K : Int) + 1) = (K : Int) + 1 := by rw [IntKind.wrap_i64]; omega
  have HAs : Hid (grwS K m N E P = catS (catS (hdSt (sealB K 0 0 0)) 2 (frS K N E P)) (2 + m) (tailS (K + m) 0)) := rfl
  generalize grwS K m N E P = AS at HAs ⊢
  generalize hdSt (sealB K 0 0 0) = RS at HRn HAs
  have hu167 := Tryz.underlying167
  have HI93 := hideJ info93
  clear hb0 hF ha hKm
  go_enter Tryz.func49, Tryz.ntmps49
  go_wp2_with (first
    | (go_at_call 88; (with_reducible refine Calls.mono (HRn.out _) ?_); rintro e w3 ⟨⟨v3, rfl, hst⟩, hg⟩; obtain ⟨p3, k3, rfl, -⟩ := hst.form; have HSt := hideJ hst; have HW2 := hideJ hg; clear hst hg))
  obtain ⟨w2, hw2⟩ : ∃ w2, w2 = w.alloc (.cells #[.pointer (some ⟨b, 0, none⟩), .string tx, .int .i64 (K : Int)] 93) := ⟨_, rfl⟩
  rw [← hw2] at HG HB HW2 HSt
  clear hw2
  go_loopw [5, 12] (fun sv iv wq => ∃ (k : Nat) (q : Option Addr) (c' : Nat), k ≤ m ∧ iv = .int .i64 (k : Int) ∧ sv = .slice q (2 + k) c' ∧ StO wq w2.heap.size b (.slice q (2 + k) c') (2 + k) (catS RS 2 (frS K N E P)) ∧ w2.grownBy wq none) (fun _ iv _ => m - (intOf iv).toNat)
  case atStart => exact ⟨0, p3, k3, Nat.zero_le _, rfl, rfl, HSt.out.congr (fun k hk => (catS_lt hk).symm), HW2.out⟩
  case round =>
    obtain ⟨k, q, c', hk, rfl, rfl, hst, hg⟩ := hrel
    have HStk := hideJ hst
    have HWk := hideJ hg
    have HGk := hideJ (grown_trans' HG.out hg)
    have HBx := hideJ (Blk.grown HB.out hg)
    clear hst hg
    by_cases hlt : k < m
    · have HFk := hideJ (HF.out.grown HGk.out)
      have hp := HFa.out.pg (K + k)
      have l1 : (k : Int) < (m : Int) := by omega
      have l0 : (0 : Int) ≤ (k : Int) := by omega
      have hw1 : IntKind.i64.wrap ((k : Int) + 1) = (k : Int) + 1 := by have := HM.out; rw [IntKind.wrap_i64]; omega
      have hw3 : IntKind.i64.wrap ((K : Int) + 1 + (k : Int)) = (K : Int) + 1 + (k : Int) := by have := HM.out; rw [IntKind.wrap_i64]; omega
      have HK := hideJ hlt
      have HLf := hideJ (fun V => layFrame_w V (N (K + k)) (E (K + k)) (by have := HFa.out.num (K + k); omega) (by have := HFa.out.en (K + k); omega) (P (K + k)) false hp)
      have HFs : Hid (∀ V, Calls Tryz.prog 81 #[.int .i64 ((K : Int) + 1 + (k : Int))] V fun e w' => e = .returned (.int .i64 ((64 + 320 * (K + k) : Nat) : Int)) ∧ V = w') := fun V => by
        have := frameStart_w V (K + k) (by have := HM.out; omega)
        rwa [show ((K + k + 1 : Nat) : Int) = (K : Int) + 1 + (k : Int) by omega] at this
      have HPc := hideJ (fun V => put_c V b tx (K : Int) nmJ (bstr (frB (N (K + k)) (E (K + k)) (P (K + k)))) (64 + 320 * (K + k)))
      obtain ⟨A, hAA⟩ : ∃ A, A = 64 + 320 * (K + k) := ⟨_, rfl⟩
      obtain ⟨X, hX⟩ : ∃ X, X = bstr (frB (N (K + k)) (E (K + k)) (P (K + k))) := ⟨_, rfl⟩
      rw [← hAA] at HFs HPc
      rw [← hX] at HLf HPc
      have HAA := hideJ hAA
      have HX := hideJ hX
      have HRg := hideJ (HFk.out.range hlt)
      have HFl : Hid ((Tryz.prog.info? 167).map (·.size) = some (fcl (N (K + k) : Int) (P (K + k)) (E (K + k)) false).length) := by
        have := size167 (n := (N (K + k) : Int)) (p := P (K + k)) (e := E (K + k)) (pl := false) hp
        rwa [List.size_toArray] at this
      have hFl := HFl.out
      obtain ⟨Z, hZs, hZ⟩ := new167 wr
      have HZ := hideJ hZ
      have HI := hideJ (size167 (n := (N (K + k) : Int)) (p := P (K + k)) (e := E (K + k)) (pl := false) hp)
      have HA := hideJ (fcl_all (N (K + k) : Int) (P (K + k)) (E (K + k)) false)
      have HS : Hid ((fcl (N (K + k) : Int) (P (K + k)) (E (K + k)) false).toArray.size = Z.size) := by show _ = _; rw [List.size_toArray, fcl_length _ _ _ hp, hZs]
      clear hAA hX hp hZ hZs
      generalize hC : fcl (N (K + k) : Int) (P (K + k)) (E (K + k)) false = C at HLf HRg HFl hFl HI HA HS
      clear hC
      go_upto_region 5 with (first
        | ((with_reducible refine at167L ?_); refine wpList_load_mid (by rfl) 167 _ (by rfl) g (k * 259) (by rfl) C _ HRg.out hu167 (by rfl) HFl.out ?_)
        | ((with_reducible refine at167S ?_); refine wp_storeB (c := C.toArray) HI.out HS.out HA.out HZ.out _ _ (by rfl) (by rfl) (by rfl) (by rfl) ?_; intro y2 hb5 ho5; have HBf := hideJ hb5; have HY2 := hideJ (grown_only (World.grownBy_alloc wr (.cells Tryz.zeroCells167 167) none) ho5 (Nat.le_refl _)); clear hb5 ho5))
      have HBy := hideJ (Blk.grown HBx.out HY2.out)
      have HSG : Hid (∀ V, y2.drew.grownBy V none → V.cell? ⟨w.heap.size, 0, none⟩ = some (.pointer (some ⟨b, 0, none⟩)) ∧ V.cell? ⟨w.heap.size, 1, none⟩ = some (.string tx) ∧ V.cell? ⟨w.heap.size, 2, none⟩ = some (.int .i64 (K : Int)) ∧ V.rangeAt wr.heap.size 0 C) := fun V hV => by
        have h1 := lc_cells ((blk_drew HBy.out).grown hV)
        exact ⟨h1.1, h1.2.1, h1.2.2, range_of_blk2 ((blk_drew HBf.out).grown hV)⟩
      have HSA : Hid (∀ V W, y2.drew.grownBy V none → App w2.heap.size V W → W.cell? ⟨w.heap.size, 0, none⟩ = some (.pointer (some ⟨b, 0, none⟩)) ∧ W.cell? ⟨w.heap.size, 1, none⟩ = some (.string tx) ∧ W.cell? ⟨w.heap.size, 2, none⟩ = some (.int .i64 (K : Int)) ∧ W.rangeAt wr.heap.size 0 C) := fun V W hV ha => by
        have h1 := lc_cells (ha.lcb ((blk_drew HBy.out).grown hV))
        exact ⟨h1.1, h1.2.1, h1.2.2, range_of_blk2 (ha.frame ((blk_drew HBf.out).grown hV))⟩
      have HS0 := hideJ (HSG.out _ (grown_refl _))
      refine wp_region_held_drew (S := fun V => V.cell? ⟨w.heap.size, 0, none⟩ = some (.pointer (some ⟨b, 0, none⟩)) ∧ V.cell? ⟨w.heap.size, 1, none⟩ = some (.string tx) ∧ V.cell? ⟨w.heap.size, 2, none⟩ = some (.int .i64 (K : Int)) ∧ V.rangeAt wr.heap.size 0 C) (by kernel_rfl) HS0.out (fun hHeld => ?_)
      refine wpAnyH_take (i := 0) (v := .slice q (2 + k) c') rfl (by kernel_rfl) (by kernel_rfl) (by kernel_rfl) (fun _ _ _ h => h) (Or.inl ⟨by rfl, fun V hV => by go_simp⟩) hHeld ?_
      try simp only [Act.put, List.getElem_toArray, List.getElem_cons_zero, List.setIfInBounds_toArray, List.set_cons_zero, List.set_cons_succ]
      refine wpAnyH_take (i := 1) (v := .agg #[.pointer (some ⟨b, 0, none⟩), .string tx, .int .i64 (K : Int)]) rfl (by kernel_rfl) (by kernel_rfl) (by kernel_rfl) (fun _ _ _ h => h) (Or.inl ⟨by rfl, fun V hV => by go_simp⟩) hHeld ?_
      try simp only [Act.put, List.getElem_toArray, List.getElem_cons_succ, List.getElem_cons_zero, List.setIfInBounds_toArray, List.set_cons_zero, List.set_cons_succ]
      refine wpAnyH_take (i := 2) (v := .pointer (some ⟨w.heap.size, 2, none⟩)) rfl (by kernel_rfl) (by kernel_rfl) (by kernel_rfl) (fun _ _ _ h => h) (Or.inl ⟨by rfl, fun V hV => by go_simp⟩) hHeld ?_
      try simp only [Act.put, List.getElem_toArray, List.getElem_cons_succ, List.getElem_cons_zero, List.setIfInBounds_toArray, List.set_cons_zero, List.set_cons_succ]
      refine wpAnyH_take (i := 3) (v := .int .i64 (K : Int)) rfl (by kernel_rfl) (by kernel_rfl) (by kernel_rfl) (fun _ _ _ h => h) (Or.inl ⟨by rfl, fun V hV => by go_simp⟩) hHeld ?_
      try simp only [Act.put, List.getElem_toArray, List.getElem_cons_succ, List.getElem_cons_zero, List.setIfInBounds_toArray, List.set_cons_zero, List.set_cons_succ]
      refine wpAnyH_take (i := 4) (v := .int .i64 ((K : Int) + 1)) rfl (by kernel_rfl) (by kernel_rfl) (by kernel_rfl) (fun _ _ _ h => h) (Or.inl ⟨by rfl, fun V hV => by go_simp⟩) hHeld ?_
      try simp only [Act.put, List.getElem_toArray, List.getElem_cons_succ, List.getElem_cons_zero, List.setIfInBounds_toArray, List.set_cons_zero, List.set_cons_succ]
      refine wpAnyH_take (i := 5) (v := .int .i64 (k : Int)) rfl (by kernel_rfl) (by kernel_rfl) (by kernel_rfl) (fun _ _ _ h => h) (Or.inl ⟨by rfl, fun V hV => by go_simp⟩) hHeld ?_
      try simp only [Act.put, List.getElem_toArray, List.getElem_cons_succ, List.getElem_cons_zero, List.setIfInBounds_toArray, List.set_cons_zero, List.set_cons_succ]
      refine wpAnyH_take (i := 6) (v := .int .i64 ((K : Int) + 1 + (k : Int))) rfl (by kernel_rfl) (by kernel_rfl) (by kernel_rfl) (fun _ _ _ h => h) (Or.inl ⟨by rfl, fun V hV => by go_simp⟩) hHeld ?_
      try simp only [Act.put, List.getElem_toArray, List.getElem_cons_succ, List.getElem_cons_zero, List.setIfInBounds_toArray, List.set_cons_zero, List.set_cons_succ]
      refine wpAnyH_take (i := 8) (v := .agg C.toArray) rfl (by kernel_rfl) (by kernel_rfl) (by kernel_rfl) (fun _ _ _ h => h) (yieldsIf_load_mid (by rfl) _ _ rfl _ _ rfl _ _ (fun V hV => hV.2.2.2) hu167 rfl HFl.out) hHeld ?_
      try simp only [Act.put, List.getElem_toArray, List.getElem_cons_succ, List.getElem_cons_zero, List.setIfInBounds_toArray, List.set_cons_zero, List.set_cons_succ]
      refine wpAnyH_ready (rs := [7]) (by kernel_rfl) (by simp) ?_
      refine AllReadyH.cons rfl (fun KK hK => ?_) AllReadyH.nil
      go_simp
      go_at_call 81; (with_reducible refine Calls.mono (HFs.out _) ?_); rintro e y3 ⟨rfl, rfl⟩
      go_wp2_with fail
      refine hK.out _ _ (HS0.out) (fun hHeld => ?_)
      clear hK KK
      try simp only [Act.put, List.getElem_toArray, List.getElem_cons_succ, List.getElem_cons_zero, List.setIfInBounds_toArray, List.set_cons_zero, List.set_cons_succ]
      refine wpAnyH_ready (rs := [9]) (by kernel_rfl) (by simp) ?_
      refine AllReadyH.cons rfl (fun KK hK => ?_) AllReadyH.nil
      go_simp
      go_at_call 90; (with_reducible refine Calls.mono (HLf.out _) ?_); rintro e y6 ⟨rfl, hg⟩; have HY6 := hideJ hg; have HS1 := hideJ (HSG.out _ hg); clear hg
      go_wp2_with fail
      refine hK.out _ _ (HS1.out) (fun hHeld => ?_)
      clear hK KK
      try simp only [Act.put, List.getElem_toArray, List.getElem_cons_succ, List.getElem_cons_zero, List.setIfInBounds_toArray, List.set_cons_zero, List.set_cons_succ]
      refine wpAnyH_ready (rs := [10]) (by kernel_rfl) (by simp) ?_
      refine AllReadyH.cons rfl (fun KK hK => ?_) AllReadyH.nil
      go_simp
      go_at_call 89; (with_reducible refine Calls.mono (HPc.out _) ?_); rintro e y4 ⟨⟨u4, rfl, a1, a2, a3, a4, rfl, hv4⟩, hg⟩; have HV4 := hideJ (mkPut hv4); have HY4 := hideJ (grown_trans' HY6.out hg); have HS2 := hideJ (HSG.out _ (grown_trans' HY6.out hg)); have HS3 := hideJ (HSG.out _ (grown_trans' (grown_trans' HY6.out hg) (World.grownBy_alloc y4 (.cells #[fun4 124 a1 a2 a3 a4] 171) none))); clear hv4 hg
      go_wp2_with fail
      refine hK.out _ _ (HS2.out) (fun hHeld => ?_)
      clear hK KK
      try simp only [Act.put, List.getElem_toArray, List.getElem_cons_succ, List.getElem_cons_zero, List.setIfInBounds_toArray, List.set_cons_zero, List.set_cons_succ]
      refine wpAnyH_ready (rs := [11]) (by kernel_rfl) (by simp) ?_
      refine AllReadyH.cons rfl (fun KK hK => ?_) AllReadyH.nil
      go_simp
      go_wp2_with fail
      refine hK.out _ _ (HS3.out) (fun hHeld => ?_)
      clear hK KK
      try simp only [Act.put, List.getElem_toArray, List.getElem_cons_succ, List.getElem_cons_zero, List.setIfInBounds_toArray, List.set_cons_zero, List.set_cons_succ]
      refine wpAnyH_ready (rs := [12]) (by kernel_rfl) (by simp) ?_
      refine AllReadyH.cons rfl (fun KK hK => ?_) AllReadyH.nil
      refine step_appF (n := 2 + k) (m := 1) (b := b) (base := w2.heap.size) (S := catS RS 2 (frS K N E P)) (S' := fun _ => .put nmJ A X) [fun4 124 a1 a2 a3 a4] (((HStk.out.grown HY2.out).grown (World.grownBy_drew _)).grown HY4.out) rfl (by omega) (one_sv HV4.out) (by intro u hu; simp at hu; rw [hu]; rfl) (by have := HM.out; have := HK.out; omega) (Nat.le_trans HWk.out.size (Nat.le_trans HY2.out.size HY4.out.size)) _ _ (by rfl) (by rfl) (by rfl) (by rfl) ?_
      intro p5 k5 w5 hst5 hap5
      have HSt5 := hideJ hst5
      have HAp5 := hideJ hap5
      have HS4 := hideJ (HSA.out _ _ HY4.out hap5)
      clear hst5 hap5
      refine hK.out _ _ (HS4.out) (fun hHeld => ?_)
      clear hK KK
      try simp only [Act.put, List.getElem_toArray, List.getElem_cons_succ, List.getElem_cons_zero, List.setIfInBounds_toArray, List.set_cons_zero, List.set_cons_succ]
      refine wpAnyH_take (i := 13) (v := .slice p5 (2 + k + 1) k5) rfl (by kernel_rfl) (by kernel_rfl) (by kernel_rfl) (fun _ _ _ h => h) (Or.inl ⟨by rfl, fun V hV => by go_simp⟩) hHeld ?_
      try simp only [Act.put, List.getElem_toArray, List.getElem_cons_succ, List.getElem_cons_zero, List.setIfInBounds_toArray, List.set_cons_zero, List.set_cons_succ]
      refine wpAnyH_done (by kernel_rfl) ?_ _
      all_goals (try go_wp2)
      refine ⟨⟨k + 1, p5, k5, HK.out, rfl, rfl, ?_, ?_⟩, ?_⟩
      · refine StO.congr HSt5.out (fun j hj => ?_)
        by_cases e : j < 2 + k
        · exact catS_lt e
        · obtain rfl : j = 2 + k := by omega
          have e1 : catS (catS RS 2 (frS K N E P)) (2 + k) (fun _ => Stp.put nmJ A X) (2 + k) = .put nmJ A X := if_neg (by omega)
          rw [e1, catS_ge, HX.out, HAA.out]
          rfl
      · exact HAp5.out.grown w2 (Nat.le_refl _) (grown_trans' (grown_trans' (grown_trans' HWk.out HY2.out) (World.grownBy_drew _)) HY4.out)
      · simp only [intOf]; have := HK.out; omega
    · obtain rfl : k = m := by omega
      go_wp2_with fail
      have HSG : Hid (∀ V, wr.drew.grownBy V none → V.cell? ⟨w.heap.size, 0, none⟩ = some (.pointer (some ⟨b, 0, none⟩)) ∧ V.cell? ⟨w.heap.size, 1, none⟩ = some (.string tx) ∧ V.cell? ⟨w.heap.size, 2, none⟩ = some (.int .i64 (K : Int))) := fun V hV => lc_cells ((blk_drew HBx.out).grown hV)
      have HS0 := hideJ (HSG.out _ (grown_refl _))
      go_region_held3 (fun V => V.cell? ⟨w.heap.size, 0, none⟩ = some (.pointer (some ⟨b, 0, none⟩)) ∧ V.cell? ⟨w.heap.size, 1, none⟩ = some (.string tx) ∧ V.cell? ⟨w.heap.size, 2, none⟩ = some (.int .i64 (K : Int))) (first | with_reducible exact HS0.out | with_reducible exact HS1.out | with_reducible exact HS2.out | with_reducible exact HS3.out | with_reducible exact HS4.out | with_reducible exact HS5.out) (first
        | (go_at_call 92; (with_reducible refine Calls.mono (HPh.out _) ?_); rintro e y2 ⟨⟨u2, rfl, a1, a2, a3, a4, rfl, hv2⟩, hg⟩; have HV2 := hideJ (mkPut hv2); have HV1 := hideJ (HV1.out.grown hg); have HY2 := hideJ (grown_trans' HY1.out hg); have HS2 := hideJ (HSG.out _ (grown_trans' HY1.out hg)); clear hv2 hg)
        | (go_at_call 91; (with_reducible refine Calls.mono (HSy.out _) ?_); rintro e y3 ⟨⟨u3, rfl, d1, d2, rfl, hv3⟩, hg⟩; have HV3 := hideJ (mkSync hv3); have HV1 := hideJ (HV1.out.grown hg); have HV2 := hideJ (HV2.out.grown hg); have HY3 := hideJ (grown_trans' HY2.out hg); have HS3 := hideJ (HSG.out _ (grown_trans' HY2.out hg)); have HS4 := hideJ (HSG.out _ (grown_trans' (grown_trans' HY2.out hg) (World.grownBy_alloc y3 (.cells #[fun2 126 c1 c2, fun4 124 a1 a2 a3 a4, fun2 126 d1 d2] 171) none))); clear hv3 hg)
        | (go_at_call 91; (with_reducible refine Calls.mono (HSy.out _) ?_); rintro e y1 ⟨⟨u1, rfl, c1, c2, rfl, hv1⟩, hg⟩; have HV1 := hideJ (mkSync hv1); have HY1 := hideJ hg; have HS1 := hideJ (HSG.out _ hg); clear hv1 hg)
        | (refine step_appF (n := 2 + k) (m := 3) (b := b) (base := w2.heap.size) (S := catS RS 2 (frS K N E P)) [fun2 126 c1 c2, fun4 124 a1 a2 a3 a4, fun2 126 d1 d2] (S' := tailS (K + k) 0) ((HStk.out.grown (World.grownBy_drew _)).grown HY3.out) rfl (by omega) (three_sv HV1.out HV2.out HV3.out) three_oneF (by have := HM.out; omega) (Nat.le_trans HWk.out.size HY3.out.size) _ _ (by rfl) (by rfl) (by rfl) (by rfl) ?_; intro p5 k5 w5 hst5 hap5; have HSt5 := hideJ hst5; have HAp5 := hideJ hap5; have HS5 := hideJ (lc_cells (hap5.lcb ((blk_drew HBx.out).grown HY3.out))); clear hst5 hap5))
      all_goals (try go_wp2)
      go_ret
      obtain ⟨q5, c5, e5, hA⟩ := HSt5.out.form
      refine ⟨⟨q5, c5, by rw [← e5]; rfl, by rw [HAs.out]; exact hA⟩, ?_⟩
      exact HAp5.out.grown w HG.out.size (grown_trans' (grown_trans' HGk.out (World.grownBy_drew _)) HY3.out)
end Go.Proofs.YteocmhbllckpjaaGreat
