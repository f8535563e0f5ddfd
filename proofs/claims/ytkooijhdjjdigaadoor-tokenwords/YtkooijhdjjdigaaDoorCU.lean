/- The program's own Keyword and Name. -/
import Derived.Test.YtkooijhdjjdigaaDoorCS
import Derived.Test.YtkooijhdjjdigaaDoorCT
import Derived.Test.YtkooijhdjjdigaaDoorKS
namespace Go.Proofs.YtkooijhdjjdigaaDoor
open Go.ChangeShapes Go.WideShapes Go.ChangeAt Go.RowKit Go.Shelf
set_option linter.unusedVariables false

theorem bytes_below (w : World) (t : ByteArray) : Below w.heap.size w (Lib.bytesWorld w 5 t) :=
  ⟨rfl, rfl, rfl, by rw [Lib.bytesWorld_size]; omega, fun j hj => Lib.bytesWorld_at_old w 5 t j hj⟩
set_option maxRecDepth 10000 in
set_option maxHeartbeats 2000000 in
theorem key_e (s : ByteArray) (hs : s.size ≤ 140737488351232) (w : World) :
    Calls Tryd.prog 15 #[.string s] w fun e w' => e = .returned (keyV (keyR s.data.toList)) ∧ Below w.heap.size w w' := by
  have hlen : s.data.toList.length = s.size := by simp
  rw [keyR_isK]
  obtain ⟨U, hU⟩ : ∃ U, s.data.toList.map capB = U := ⟨_, rfl⟩
  rw [hU]
  have hUl : U.length = s.size := by rw [← hU, List.length_map, hlen]
  have HUi : Hid (∀ (i : Nat) (h : i < s.size), U[i]? = some (capB (s[i]'h))) := fun i h => by
    rw [← hU, List.getElem?_map, List.getElem?_eq_getElem (by rw [hlen]; exact h)]; rfl
  have HUl := hide hUl
  have hcv := Lib.run_convert_string_bytes (P := Tryd.prog) w 9 62 5 s Tryd.underlying9 Tryd.underlying62 Tryd.underlying5
  have hnew := Lib.bytesWorld_at_new w 5 s
  have hbl := bytes_below w s
  obtain ⟨N, hN⟩ : ∃ N, (Lib.bytesCells w 5 s).size = N := ⟨_, rfl⟩
  have hNs : s.size ≤ N := by
    rw [← hN]; unfold Lib.bytesCells
    simp only [Array.size_append, Array.size_map, Array.size_replicate]
    have : s.data.size = s.size := rfl
    omega
  have hini : ∀ (i : Nat) (h : i < s.size), (Lib.bytesCells w 5 s)[i]? = some (.int .u8 ((s[i]'h).toNat : Int)) := fun i h => by
    unfold Lib.bytesCells
    rw [Array.getElem?_append_left (by simpa using h)]
    simp [h]
    rfl
  rw [hN] at hnew
  generalize grownCap w s.size 0 5 = gc at *
  generalize Lib.bytesCells w 5 s = bc0 at *
  generalize Lib.bytesWorld w 5 s = W0 at *
  have HW := hide hnew
  have HB0 := hide hbl
  have HI := hide hini
  have HN := hide (And.intro hN hNs)
  obtain ⟨b, hk⟩ : ∃ b, isK U = b := ⟨_, rfl⟩
  have HK2 : Hid (∀ V, Calls Tryd.prog 30 #[.string ⟨U.toArray⟩] V fun e w' => e = .returned (.bool b) ∧ V = w') := fun V => by rw [← hk]; exact iskey_e ⟨U.toArray⟩ V
  rw [hk]
  obtain ⟨R, hR⟩ : ∃ R, keyV (if b = true then some U else none) = R := ⟨_, rfl⟩
  rw [hR]
  have KR := hide hR
  clear hk hR
  clear hlen hU hUl hnew hbl hini hN hNs
  go_enter Tryd.func15, Tryd.ntmps15
  go_wp2
  go_loopw [10] (fun iv wr => ∃ (j : Nat) (cur : Array Value), j ≤ s.size ∧ iv = .int .i64 (j : Int) ∧ wr.heap[w.heap.size]? = some (.cells cur 5 (N, N + 1)) ∧ cur.size = N ∧ (∀ (i : Nat) (h : i < s.size), cur[i]? = some (.int .u8 ((if i < j then capB (s[i]'h) else s[i]'h).toNat : Int))) ∧ Below w.heap.size w wr) (fun iv _ => s.size - (intOf iv).toNat)
  case atStart => exact ⟨0, _, Nat.zero_le _, rfl, HW.out, HN.out.1, fun i h => by rw [if_neg (by omega)]; exact HI.out i h, HB0.out⟩
  case round =>
    obtain ⟨j, cur, hj, rfl, hblk, hcs, hcur, hb⟩ := hrel
    have HBk := hide hblk
    have HCs := hide hcs
    have HCu := hide hcur
    have HBj := hide hb
    clear hblk hcs hcur hb
    by_cases hlt : j < s.size
    · have l1 : (j : Int) < (s.size : Int) := by omega
      have l0 : (0 : Int) ≤ (j : Int) := by omega
      have hw1 : IntKind.i64.wrap ((j : Int) + 1) = ((j + 1 : Nat) : Int) := by rw [IntKind.wrap_i64]; omega
      have hc := HCu.out j hlt
      rw [if_neg (by omega)] at hc
      have d0 := (cellF HBk.out j).trans hc
      have f0 := frozenF HBk.out j (by have := HN.out.2; omega)
      have HC := hide (ccapital (s[j]'hlt))
      have HS := hide (setF HBk.out j (.int .u8 ((capB (s[j]'hlt)).toNat : Int)))
      have HL : Hid (Below w.heap.size w (wr.setCell ⟨w.heap.size, j, none⟩ (.int .u8 ((capB (s[j]'hlt)).toNat : Int)))) := HBj.out.setCell (Nat.le_refl _) _
      have HX : Hid (∀ (i : Nat) (h : i < s.size), (cur.setIfInBounds j (.int .u8 ((capB (s[j]'hlt)).toNat : Int)))[i]? = some (.int .u8 ((if i < j + 1 then capB (s[i]'h) else s[i]'h).toNat : Int))) := fun i h => by
        by_cases e : i = j
        · subst e
          rw [Array.getElem?_setIfInBounds_self_of_lt (by rw [HCs.out]; have := HN.out.2; omega), if_pos (by omega)]
        · rw [Array.getElem?_setIfInBounds_ne (fun h => e h.symm), HCu.out i h]
          by_cases e2 : i < j
          · rw [if_pos e2, if_pos (by omega)]
          · rw [if_neg e2, if_neg (by omega)]
      clear hc
      generalize s[j]'hlt = c at *
      go_wp2_with (first
        | (go_at_call 29; (with_reducible refine Calls.mono (HC.out _) ?_); rintro e w5 ⟨rfl, rfl⟩))
      go_roundw
      case rel => exact ⟨j + 1, _, hlt, rfl, HS.out, by rw [Array.size_setIfInBounds]; exact HCs.out, HX.out, HL.out⟩
      case measure => simp [intOf]; omega
    · have l1 : ¬ (j : Int) < (s.size : Int) := by omega
      obtain rfl : s.size = j := by omega
      have hcv2 := convF (cap := gc) U HBk.out HUl.out (fun i x hx => by
        have hi : i < s.size := by rw [← HUl.out]; exact (List.getElem?_eq_some_iff.1 hx).1
        rw [HCu.out i hi, if_pos hi]
        rw [HUi.out i hi] at hx
        cases hx
        rfl)
      clear hcv
      cases b
      · obtain rfl : keyV none = R := KR.out
        clear KR
        go_wp2_with (first
          | (go_at_call 30; (with_reducible refine Calls.mono (HK2.out _) ?_); rintro e w5 ⟨rfl, rfl⟩))
        go_ret2
        exact ⟨rfl, HBj.out⟩
      · obtain rfl : keyV (some U) = R := KR.out
        clear KR
        go_wp2_with (first
          | (go_at_call 30; (with_reducible refine Calls.mono (HK2.out _) ?_); rintro e w5 ⟨rfl, rfl⟩))
        go_ret2
        exact ⟨rfl, HBj.out⟩
theorem tw_all {p : UInt8 → Bool} : ∀ (l : List UInt8), (∀ x ∈ l, p x = true) → l.takeWhile p = l
  | [], _ => rfl
  | c :: r, h => by rw [List.takeWhile_cons, if_pos (h c (by simp)), tw_all r (fun x hx => h x (by simp [hx]))]
theorem rn_all (p : UInt8 → Bool) (l : List UInt8) : rn p l = l.length ↔ l.all p = true := by
  unfold rn
  rw [List.all_eq_true]
  constructor
  · intro h x hx
    have e : l.takeWhile p = l := (List.takeWhile_sublist _).eq_of_length h
    rw [← e] at hx
    exact List.all_eq_true.1 (List.all_takeWhile (l := l) (p := p)) x hx
  · intro h
    rw [tw_all l h]
theorem siz1_cons (c : UInt8) (r : List UInt8) : siz 1 (c :: r) = if letB c = true then rn (fun c => letB c || digB c) (c :: r) else 0 := rfl
theorem nameB_cons (c : UInt8) (r : List UInt8) : nameB (c :: r) = (decide ((c :: r).length ≤ 32) && letB c && (c :: r).all fun c => letB c || digB c) := rfl
theorem name_w (l : List UInt8) (hl : l.length ≤ 32) : (decide (l.length ≠ 0) && decide (siz 1 l = l.length)) = nameB l := by
  cases l with
  | nil => rfl
  | cons c r =>
    rw [siz1_cons, nameB_cons, Bool.eq_iff_iff]
    by_cases hc : letB c = true
    · rw [if_pos hc, hc, decide_eq_true hl]
      have h0 : (c :: r).length ≠ 0 := by simp
      rw [decide_eq_true h0]
      simp only [Bool.true_and, decide_eq_true_eq]
      exact rn_all _ _
    · rw [if_neg hc]
      rw [Bool.not_eq_true] at hc
      rw [hc]
      simp
set_option maxRecDepth 20000 in
theorem name_e (s : ByteArray) (hs : s.size ≤ 140737488351232) (w : World) :
    Calls Tryd.prog 17 #[.string s] w fun e w' => e = .returned (.bool (nameB s.data.toList && (keyR s.data.toList).isNone)) ∧ Below w.heap.size w w' := by
  have hlen : s.data.toList.length = s.size := by simp
  have HK := key_e s hs w
  obtain ⟨x, b, hk, hb⟩ : ∃ x b, keyV (keyR s.data.toList) = .tuple #[.string x, .bool b] ∧ (keyR s.data.toList).isNone = !b := by
    cases keyR s.data.toList with
    | none => exact ⟨_, _, rfl, rfl⟩
    | some x => exact ⟨_, _, rfl, rfl⟩
  rw [hk] at HK
  rw [hb]
  have HK := hide HK
  have HM := hide (maybe_sz 1 (by omega))
  clear hk hb
  cases b
  · by_cases h32 : s.size ≤ 32
    · have l1 : (s.size : Int) ≤ 32 := by omega
      have HY := hide (fun V A (hA : Blk V A #[.func (.func (szF 1)) #[] #[]] 77) => may1_e 1 (by omega) A s (by omega) V hA)
      have e := name_w s.data.toList (by omega)
      rw [hlen] at e
      rw [e] at HY
      generalize nameB s.data.toList = n at *
      clear e hlen
      go_enter Tryd.func17, Tryd.ntmps17
      go_wp2_with (first
        | (go_at_call 15; (with_reducible refine Calls.mono HK.out ?_); rintro e w4 ⟨rfl, hb⟩; have HB4 := hide hb; clear hb)
        | (go_at_call 33; (with_reducible refine Calls.mono (HM.out _) ?_); rintro e w5 ⟨rfl, hbl, hb⟩; have HA := hide hbl; have HB5 := hide (below_trans HB4.out hb); clear hb hbl)
        | (go_at_call 50; (with_reducible refine Calls.mono (HY.out _ _ HA.out) ?_); rintro e w6 ⟨rfl, rfl⟩))
      go_ret
      exact ⟨by simp, HB5.out⟩
    · have l1 : ¬ (s.size : Int) ≤ 32 := by omega
      have e : nameB s.data.toList = false := by simp [nameB, hlen]; intro h; omega
      rw [e]
      clear e hlen
      go_enter Tryd.func17, Tryd.ntmps17
      go_wp2_with (first
        | (go_at_call 15; (with_reducible refine Calls.mono HK.out ?_); rintro e w4 ⟨rfl, hb⟩; have HB4 := hide hb; clear hb))
      go_ret
      exact ⟨rfl, HB4.out⟩
  · generalize nameB s.data.toList = n at *
    clear hlen
    go_enter Tryd.func17, Tryd.ntmps17
    go_wp2_with (first
      | (go_at_call 15; (with_reducible refine Calls.mono HK.out ?_); rintro e w4 ⟨rfl, hb⟩; have HB4 := hide hb; clear hb))
    go_ret
    exact ⟨by simp, HB4.out⟩
end Go.Proofs.YtkooijhdjjdigaaDoor
