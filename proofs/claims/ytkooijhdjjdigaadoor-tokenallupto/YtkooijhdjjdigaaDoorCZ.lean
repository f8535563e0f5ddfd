/- The program's own Print. -/
import Derived.Test.YtkooijhdjjdigaaDoorCY
import Derived.Test.YtkooijhdjjdigaaDoorKX
import Derived.Test.YtkooijhdjjdigaaDoorSh
namespace Go.Proofs.YtkooijhdjjdigaaDoor
open Go.ChangeShapes Go.WideShapes Go.ChangeAt Go.RowKit Go.Shelf
set_option linter.unusedVariables false

theorem may_any (k : Int) (T : ByteArray) (hs : T.size ≤ 140737488355328) (V : World) :
    Calls Tryd.prog 33 #[.int .i64 k] V fun e w' => ∃ F caps, e = .returned (.func (.func F) #[] caps) ∧ Leads F ∧ Below V.heap.size V w' ∧
      (∀ U, Below w'.heap.size w' U → Calls Tryd.prog F (#[.string T] ++ caps) U fun e u' => e = .returned (.bool (wrt k T.data.toList).isSome) ∧ U = u') := by
  have hlen : T.data.toList.length = T.size := by simp
  by_cases h0 : k < 1 ∨ 6 < k
  · refine (maybe_not k h0 V).mono fun e w' ⟨he, hw⟩ => ⟨_, _, he, leads_may4, by rw [hw]; exact Below.refl _ _, fun U _ => ?_⟩
    rw [wrt_not k h0]
    exact may4_e T U
  by_cases h3 : k = 3 ∨ k = 4
  · have e : (wrt k T.data.toList).isSome = true := by
      rcases h3 with rfl | rfl
      · rfl
      · rfl
    rw [e]
    obtain ⟨n, rfl⟩ : ∃ n : Nat, k = (n : Int) := ⟨k.toNat, by omega⟩
    refine (maybe_any n (by omega) V).mono fun e w' ⟨he, hw⟩ => ⟨_, _, he, leads_may2, by rw [hw]; exact Below.refl _ _, fun U _ => ?_⟩
    exact may2_e T U
  by_cases h5 : k = 5
  · subst h5
    refine (maybe_par V).mono fun e w' ⟨he, hw⟩ => ⟨_, _, he, leads_may3, by rw [hw]; exact Below.refl _ _, fun U _ => ?_⟩
    rw [← wrt_par, hlen]
    exact may3_e T hs U
  · obtain ⟨n, rfl⟩ : ∃ n : Nat, k = (n : Int) := ⟨k.toNat, by omega⟩
    have hn : n = 1 ∨ n = 2 ∨ n = 6 := by omega
    refine (maybe_sz n hn V).mono fun e w' ⟨he, hA, hb⟩ => ⟨_, _, he, leads_may1, hb, fun U hU => ?_⟩
    rw [← wrt_sz n hn, hlen]
    exact may1_e n hn _ T hs U (Blk.later hA hU)
theorem tgs_take (l : List Tg) (j : Nat) (x : Tg) (h : l[j]? = some x) : (tgs (l.take (j + 1))) = tgs (l.take j) ++ [(x.k, x.t)] := by
  rw [List.take_add_one, h]
  simp [tgs]
theorem mapM_all : ∀ (l : List Tg) (ws : List (List UInt8)), (∀ (i : Nat) (x : Tg), l[i]? = some x → ∃ y, wrt x.k x.t = some y ∧ ws[i]? = some y) → ws.length = l.length → ((tgs l).mapM fun x => wrt x.1 x.2) = some ws
  | [], ws, _, h => by
    obtain rfl : ws = [] := List.length_eq_zero_iff.1 h
    rfl
  | x :: l, [], _, h => by simp at h
  | x :: l, w :: ws, hh, h => by
    obtain ⟨y, h1, h2⟩ := hh 0 x rfl
    have h2 : w = y := by simpa using h2
    subst h2
    have ih := mapM_all l ws (fun i z hz => by simpa using hh (i + 1) z (by simpa using hz)) (by simpa using h)
    show ((x.k, x.t) :: tgs l).mapM _ = _
    rw [List.mapM_cons, h1, ih]
    rfl
theorem mapM_none : ∀ (l : List Tg) (i : Nat) (x : Tg), l[i]? = some x → wrt x.k x.t = none → ((tgs l).mapM fun x => wrt x.1 x.2) = none
  | [], i, x, h, _ => by simp at h
  | z :: l, 0, x, h, hx => by
    obtain rfl : z = x := by simpa using h
    show ((z.k, z.t) :: tgs l).mapM _ = _
    rw [List.mapM_cons, hx]; rfl
  | z :: l, i + 1, x, h, hx => by
    show ((z.k, z.t) :: tgs l).mapM _ = _
    rw [List.mapM_cons, mapM_none l i x (by simpa using h) hx]
    cases wrt z.k z.t <;> rfl
theorem joinTail_W : ∀ (ws : List (List UInt8)) (a : List UInt8), joinW (a :: ws) = a ++ Lib.joinTail [32] ws
  | [], a => by simp [joinW, Lib.joinTail]
  | b :: ws, a => by
    rw [joinW, joinTail_W ws b]
    simp [Lib.joinTail]
theorem join_W (ws : List (List UInt8)) : Lib.join ws [32] = joinW ws := by
  cases ws with
  | nil => rfl
  | cons a ws => rw [Lib.join_cons, joinTail_W]
theorem makeT (n : Nat) (hn : n ≤ 4000000000) (W : World) : (Instr.makeSlice 48 (Value.int IntKind.i64 (n : Int)) (Value.int IntKind.i64 (n : Int))).run Tryd.prog W = .ok (.slice (some ⟨W.heap.size, 0, none⟩) n n) (W.alloc (.cells (madeCells (Value.string ⟨#[]⟩).cells n) 9)) := by
  obtain ⟨i, hi, hz, hsz, hby⟩ := strInfo
  have := run_make (P := Tryd.prog) W 48 9 i (.string ⟨#[]⟩) Tryd.underlying48 hi hz .i64 .i64 (n : Int) (n : Int) (by omega) (Int.le_refl _) (by rw [hby]; omega) (by omega)
  simpa [hsz] using this
/-- How a token of the list is written. -/
def wrI (l : List Tg) (i : Nat) : List UInt8 := wrP ((l[i]?.map (·.k)).getD 0) ((l[i]?.map (·.t)).getD [])
theorem wrI_get {l : List Tg} {i : Nat} {x : Tg} (h : l[i]? = some x) : wrI l i = wrP x.k x.t := by simp [wrI, h]
set_option maxRecDepth 20000 in
set_option maxHeartbeats 4000000 in
theorem print_e (l : List Tg) (hl : l.length ≤ 4000000000) (hx : ∀ x ∈ l, x.t.length ≤ 4294967280) (hj : (joinW ((List.range l.length).map (wrI l))).length ≤ 140737488355328) (v : Value) (w : World) (hE : Env w) (hv : TgAt w v l) :
    Calls Tryd.prog 19 #[v] w fun e w' => e = .returned (printV l) ∧ Below w.heap.size w w' := by
  obtain ⟨p, c, rfl, hcells⟩ := hv
  have hmk := makeT l.length hl
  obtain ⟨n, hn⟩ : ∃ n, l.length = n := ⟨_, rfl⟩
  have HE : Hid (∀ V, Below w.heap.size w V → Env V) := fun V hV => hE.below hV
  have HC := hide hcells
  have HX := hide hx
  have HJ := hide hj
  have HM := hide (fun k T hT V => may_any k T hT V)
  have HWr := hide (fun k a T hT V hV => cwritten_e k a T hT V hV)
  rw [hn] at hmk hl ⊢
  have HN := hide hn
  obtain ⟨PV, hPV⟩ : ∃ PV, printV l = PV := ⟨_, rfl⟩
  rw [hPV]
  have KPV := hide hPV
  clear hcells hx hE hj hn hPV
  go_enter Tryd.func19, Tryd.ntmps19
  go_wp2
  go_loopw [12] (fun iv wr => ∃ (j : Nat) (cur : Array Value), j ≤ n ∧ iv = .int .i64 (j : Int) ∧ Blk wr w.heap.size cur 9 ∧ cur.size = n ∧ (∀ i, i < j → cur[i]? = some (.string ⟨(wrI l i).toArray⟩)) ∧ (∀ (i : Nat) (x : Tg), i < j → l[i]? = some x → ∃ y, wrt x.k x.t = some y) ∧ Below w.heap.size w wr) (fun iv _ => n - (intOf iv).toNat)
  case atStart => exact ⟨0, _, Nat.zero_le _, rfl, Blk.new w _ _, size_madeCells _ _, fun i hi => by omega, fun i x hi => by omega, below_alloc w _⟩
  case round =>
    obtain ⟨j, cur, hj, rfl, hblk, hcs, hcur, hwr, hb⟩ := hrel
    have HBk := hide hblk
    have HCs := hide hcs
    have HCu := hide hcur
    have HWt := hide hwr
    have HBj := hide hb
    clear hblk hcs hcur hb hwr
    by_cases hlt : j < n
    · have l1 : (j : Int) < (n : Int) := by omega
      have l0 : (0 : Int) ≤ (j : Int) := by omega
      have hw1 : IntKind.i64.wrap ((j : Int) + 1) = ((j + 1 : Nat) : Int) := by rw [IntKind.wrap_i64]; omega
      obtain ⟨g, o, rfl, hq⟩ := HC.out (by rw [HN.out]; omega)
      obtain ⟨x, hlx, -⟩ := get_some (l := l) (i := j) (by rw [HN.out]; exact hlt)
      obtain ⟨q0, q1, q2⟩ := hq wr HBj.out j x hlx
      have hxm : x ∈ l := List.mem_of_getElem? hlx
      have hxl := HX.out x hxm
      obtain ⟨T, hT⟩ : ∃ T : ByteArray, T = ⟨x.t.toArray⟩ := ⟨_, rfl⟩
      have hTl : T.data.toList = x.t := by rw [hT]
      have hTs : T.size ≤ 4294967280 := by have : T.data.toList.length = T.size := (by simp); rw [← this, hTl]; exact hxl
      rw [← hT] at q2
      obtain ⟨k, hk⟩ : ∃ k, x.k = k := ⟨_, rfl⟩
      obtain ⟨a, ha⟩ : ∃ a, x.a = a := ⟨_, rfl⟩
      rw [hk] at q0
      rw [ha] at q1
      have HT2 : Hid (T.size ≤ 140737488355328) := (show T.size ≤ 140737488355328 by omega)
      have HTs := hide hTs
      have hW := Blk.new wr #[.int .i64 k, .int .i64 a, .string T] 39
      have HK1 := hide hW
      have HB1 := hide (below_alloc wr (.cells #[.int .i64 k, .int .i64 a, .string T] 39))
      have HD : Hid ((wr.alloc (.cells #[.int .i64 k, .int .i64 a, .string T] 39)).drew.cell? ⟨wr.heap.size, 0, none⟩ = some (.int .i64 k) ∧ (wr.alloc (.cells #[.int .i64 k, .int .i64 a, .string T] 39)).drew.cell? ⟨wr.heap.size, 2, none⟩ = some (.string T)) := ⟨hW.cell 0, hW.cell 2⟩
      have HK1d : Hid (Blk (wr.alloc (.cells #[.int .i64 k, .int .i64 a, .string T] 39)).drew wr.heap.size #[.int .i64 k, .int .i64 a, .string T] 39) := hW
      have HB1d : Hid (Below w.heap.size w (wr.alloc (.cells #[.int .i64 k, .int .i64 a, .string T] 39)).drew) := (HBj.out.trans ((below_alloc wr _).mono HBj.out.size)).drew
      have HBk1 : Hid (Blk (wr.alloc (.cells #[.int .i64 k, .int .i64 a, .string T] 39)).drew w.heap.size cur 9) := (show Blk (wr.alloc (.cells #[.int .i64 k, .int .i64 a, .string T] 39)) w.heap.size cur 9 from Blk.later HBk.out (below_alloc wr _))
      cases hwt : wrt k T.data.toList with
      | none =>
        have hPV : printV l = .tuple #[.string ⟨#[]⟩, .int .i64 2] := printV_no (mapM_none l j x hlx (by rw [hk, ← hTl]; exact hwt))
        have HM2 := HM.out k T HT2.out
        rw [hwt] at HM2
        have HM2 := hide HM2
        obtain rfl : _ = PV := hPV.symm.trans KPV.out
        clear hW hwt hPV hTs hxl hTl hq hlx hxm hT hk ha HM HWr
        go_wp2
        go_region_held3 (fun V => V.cell? ⟨wr.heap.size, 0, none⟩ = some (.int .i64 k) ∧ V.cell? ⟨wr.heap.size, 2, none⟩ = some (.string T)) (first | exact HD.out | exact HC5.out) (first
          | (go_at_call 33; (with_reducible refine Calls.mono (HM2.out _) ?_); rintro e w5 ⟨F, caps, rfl, hL, hb5, hF⟩; have HL5 := hide hL; have HF5 := hide hF; have HK5 := hide (Blk.later HK1d.out hb5); have HC5 := hide (And.intro (Blk.cell HK5.out 0) (Blk.cell HK5.out 2)); have HB5 := hide (HB1d.out.trans (hb5.mono HB1d.out.size)); clear hL hF hb5)
          | (rw [HL5.out]; refine Calls.mono (HF5.out _ (Below.refl _ _)) ?_; rintro e w6 ⟨rfl, rfl⟩))
        all_goals
          go_wp2
          go_ret2
          exact ⟨rfl, HB5.out⟩
      | some y =>
        have HM2 := HM.out k T HT2.out
        rw [hwt] at HM2
        have HM2 := hide HM2
        have HW2 := hide (fun V hV => HWr.out k a T HTs.out V hV)
        have HY : Hid (wrI l j = wrP k T.data.toList ∧ wrt x.k x.t = some y) := ⟨by rw [wrI_get hlx, hk, hTl], by rw [hk, ← hTl]; exact hwt⟩
        obtain ⟨old, hold⟩ : ∃ v, cur[j]? = some v := ⟨cur[j]'(by rw [HCs.out]; exact hlt), by simp [HCs.out, hlt]⟩
        have HOld := hide hold
        have HLx := hide hlx
        generalize wrP k T.data.toList = z at *
        clear hW hwt hTs hxl hTl hq hlx hxm hT hk ha HM HWr hold
        go_wp2
        go_region_held3 (fun V => V.cell? ⟨wr.heap.size, 0, none⟩ = some (.int .i64 k) ∧ V.cell? ⟨wr.heap.size, 2, none⟩ = some (.string T)) (first | exact HD.out | exact HC5.out) (first
          | (go_at_call 33; (with_reducible refine Calls.mono (HM2.out _) ?_); rintro e w5 ⟨F, caps, rfl, hL, hb5, hF⟩; have HL5 := hide hL; have HF5 := hide hF; have HK5 := hide (Blk.later HK1d.out hb5); have HC5 := hide (And.intro (Blk.cell HK5.out 0) (Blk.cell HK5.out 2)); have HB5 := hide (HB1d.out.trans (hb5.mono HB1d.out.size)); have HBk5 := hide (Blk.later HBk1.out hb5); have c50 := Blk.cell HK5.out 0; have c51 := Blk.cell HK5.out 1; have c52 := Blk.cell HK5.out 2; clear hL hF hb5)
          | (rw [HL5.out]; refine Calls.mono (HF5.out _ (Below.refl _ _)) ?_; rintro e w6 ⟨rfl, rfl⟩))
        all_goals
          go_wp2_with (first
            | (go_at_call 35; (with_reducible refine Calls.mono (HW2.out _ (HE.out _ HB5.out)) ?_); rintro e w7 ⟨rfl, hb7⟩; have HB7 := hide (HB5.out.trans (hb7.mono HB5.out.size)); have HBk7 := hide (Blk.later HBk5.out hb7); have d0 := (Blk.cell HBk7.out j).trans HOld.out; have f0 := Blk.frozen HBk7.out j; clear hb7))
          go_roundw
          case rel =>
            refine ⟨j + 1, _, hlt, rfl, Blk.set HBk7.out j _, by rw [Array.size_setIfInBounds]; exact HCs.out, fun i hi => ?_, fun i x' hi hx' => ?_, HB7.out.setCell (Nat.le_refl _) _⟩
            · by_cases e : i = j
              · subst e
                rw [Array.getElem?_setIfInBounds_self_of_lt (by rw [HCs.out]; exact hlt), HY.out.1]
              · rw [Array.getElem?_setIfInBounds_ne (fun h => e h.symm)]
                exact HCu.out i (by omega)
            · by_cases e : i = j
              · subst e
                obtain rfl : x = x' := Option.some.inj (HLx.out.symm.trans hx')
                exact ⟨y, HY.out.2⟩
              · exact HWt.out i x' (by omega) hx'
          case measure => simp [intOf]; omega
    · have l1 : ¬ (j : Int) < (n : Int) := by omega
      obtain rfl : n = j := by omega
      have hn := HN.out
      have hpv : printV l = .tuple #[.string ⟨(joinW ((List.range n).map (wrI l))).toArray⟩, .int .i64 0] := by
        refine printV_ok (mapM_all l _ (fun i x hx => ?_) (by simp [hn]))
        have hi : i < n := by rw [← hn]; exact (List.getElem?_eq_some_iff.1 hx).1
        obtain ⟨y, hy⟩ := HWt.out i x hi hx
        refine ⟨y, hy, ?_⟩
        rw [List.getElem?_map, List.getElem?_range hi, Option.map_some, wrI_get hx, wrP_of hy]
      have hj2 := HJ.out
      rw [hn] at hj2
      have HJn := Tryd.strings_Join w.heap.size 0 n ((List.range n).map fun i => ⟨(wrI l i).toArray⟩) ⟨#[32]⟩ wr (fun i x hx => by
        have hi : i < n := by simpa using (List.getElem?_eq_some_iff.1 hx).1
        rw [List.getElem?_map, List.getElem?_range hi] at hx
        obtain rfl := Option.some.inj hx
        rw [Nat.zero_add, Blk.cell HBk.out]
        exact HCu.out i hi) (Blk.lt HBk.out) (by simp; omega) (by simp) (by
        rw [show (⟨#[32]⟩ : ByteArray).data.toList = [32] from rfl, List.map_map, join_W]
        exact hj2)
      rw [show (⟨#[32]⟩ : ByteArray).data.toList = [32] from rfl, List.map_map, join_W, List.length_map, List.length_range] at HJn
      have HJn2 : Hid (Calls Tryd.prog 36 #[.slice (some ⟨w.heap.size, 0, none⟩) n n, .string ⟨#[32]⟩] wr fun e w' => e = .returned (.string ⟨(joinW ((List.range n).map (wrI l))).toArray⟩) ∧ Below wr.heap.size wr w') := HJn
      obtain rfl : _ = PV := hpv.symm.trans KPV.out
      clear hpv hj2 HJn hn
      go_wp2_with (first
        | (go_at_call 36; (with_reducible refine Calls.mono HJn2.out ?_); rintro e w2 ⟨rfl, hb⟩; have HX2 := hide (HBj.out.trans (hb.mono HBj.out.size)); clear hb))
      go_ret2
      exact ⟨rfl, HX2.out⟩
end Go.Proofs.YtkooijhdjjdigaaDoor
