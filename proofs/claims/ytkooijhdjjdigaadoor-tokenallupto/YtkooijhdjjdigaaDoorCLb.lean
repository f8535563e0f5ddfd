/- The program's own walk over a text's tokens. -/
import Derived.Test.YtkooijhdjjdigaaDoorCL
namespace Go.Proofs.YtkooijhdjjdigaaDoor
open Go.ChangeShapes Go.WideShapes Go.ChangeAt Go.RowKit Go.Shelf
set_option linter.unusedVariables false
attribute [local go_sem] Oper.semAt_some

def encT (G : List (Tk × Nat)) (i : Nat) : Array Value := #[.agg (tgA ((G.getD i (⟨0, 0, []⟩, 0)).1.k) ((G.getD i (⟨0, 0, []⟩, 0)).1.a) ⟨(G.getD i (⟨0, 0, []⟩, 0)).1.t.toArray⟩), .int .i64 ((G.getD i (⟨0, 0, []⟩, 0)).2 : Int)]
/-- What a round may not turn: the text's box, the library's variable, a token in a block of its own. -/
def KpT (A : Nat) (X Y : World) : Prop := Y.heap[A]? = X.heap[A]? ∧ Y.heap[0]? = X.heap[0]? ∧ ∀ (i : Nat) (c : Array Value), Blk X i c 39 → c.size = 3 → Blk Y i c 39
theorem Env.kept {A : Nat} {X Y : World} (h : Env X) (k : KpT A X Y) : Env Y := by
  obtain ⟨m, hm⟩ := h
  exact ⟨m, by rw [World.cell?_of_block (w := X) (w' := Y) k.2.1]; exact hm⟩
theorem walk_e (w : World) (s : ByteArray) : Calls Tryd.prog 24 #[.string s] w fun e w' => e = .returned (.func (.func 38) #[] #[.pointer (some ⟨w.heap.size, 0, none⟩)]) ∧ w' = w.alloc (.cells #[.string s] 9) := by
  go_enter Tryd.func24, Tryd.ntmps24
  go_wp2
  go_ret
  exact ⟨rfl, rfl⟩
set_option maxRecDepth 100000 in
set_option maxHeartbeats 2000000 in
theorem walk1_in (s : ByteArray) (hs : s.size ≤ 4294967280) (G : List (Tk × Nat)) (hG : wklS s.data.toList = G) (n lp A : Nat) (Kp : World → World → Prop) (hKp : ∀ X Y, Kp X Y → KpT A X Y) (J Jx : List (Fin G.length) → World → Prop)
    (hY : ∀ pre x W, J pre W → pre.length < G.length → YieldAt Fence.wide (n - 1) Tryd.prog lp (encT G x.val) W fun e W' =>
      (e = .returned (.bool true) ∧ J (pre ++ [x]) W' ∧ Kp W W') ∨ (e = .returned (.bool false) ∧ Jx (pre ++ [x]) W'))
    (W : World) (hJ : AbidesFrom W.heap.size J) (hA : Blk W A #[.string s] 9) (hE : Env W) (h0 : J [] W) :
    CallsIn Fence.wide n Tryd.prog 38 #[.func (.yield lp) #[] #[], .pointer (some ⟨A, 0, none⟩)] W fun e W' => (∃ v, e = .returned v) ∧
      ((∃ ys, ys = List.finRange G.length ∧ J ys W') ∨ (∃ pre, (∃ r, pre ++ r = List.finRange G.length) ∧ Jx pre W')) := by
  have hs2 : s.size ≤ 140737488355328 := by omega
  have c0 := hA.cell 0
  have HJ2 := hide h0
  have HA2 := hide hA
  have HE2 := hide hE
  have HJa := hide hJ
  have HK := hide hKp
  have HG := hide hG
  have HBh := hide (fun V (j : Nat) (hj : j ≤ s.size) => behind_e s hs2 j hj V)
  have HB0 := hide (behind_e s hs2 0 (Nat.zero_le _) W)
  rw [List.drop_zero] at HB0
  have HFi := hide (fun V (j : Nat) (hj : j < s.size) (hV : Env V) => first_e (s.extract j s.size) (by simp; omega) (by simp; omega) V hV)
  have hsk := skp_le false s.data.toList
  simp only [Array.length_toList, ByteArray.size_data] at hsk
  obtain ⟨q0, hq0⟩ : ∃ q, skp false s.data.toList = q := ⟨_, rfl⟩
  rw [hq0] at hsk HB0
  have HQ := hide hq0
  have e0 : 0 + q0 = q0 := Nat.zero_add _
  rw [e0] at HB0
  clear h0 hA hE hJ hKp hG hq0 e0
  refine callsIn_of_wp Tryd.func38 rfl trivial ?_ rfl
  simp only [Tryd.ntmps38, List.size_toArray, List.length_cons, List.length_nil, Nat.reduceAdd, Nat.reduceSub, Array.replicate_succ, Array.replicate_zero, List.push_toArray, List.append_toArray, List.nil_append, List.cons_append]
  gi_wp2_with (first
    | ((refine ⟨trivial, (fun h => absurd h (by decide)), ?_⟩); gi_at_call 39; refine CallsIn.mono (callsIn_wide.2 HB0.out) ?_; rintro e' w1 ⟨rfl, rfl⟩))
  gi_loopw [3] (fun iv wr => ∃ (k j f : Nat), k ≤ G.length ∧ j ≤ s.size ∧ iv = .int .i64 (j : Int) ∧ s.size < j + f ∧ wkl f (s.data.toList.drop j) j = G.drop k ∧ J ((List.finRange G.length).take k) wr ∧ Blk wr A #[.string s] 9 ∧ Env wr) (fun iv _ => s.size - (intOf iv).toNat)
  case atStart =>
    refine ⟨0, q0, s.size + 1, Nat.zero_le _, hsk, rfl, by omega, ?_, HJ2.out, HA2.out, HE2.out⟩
    rw [← HG.out, ← HQ.out]
    simp [wklS]
  case round =>
    obtain ⟨k, j, f, hk, hj, rfl, hf, hrel, hJs, hAr, hEr⟩ := hrel
    have cA := hAr.cell 0
    by_cases hlt : j < s.size
    · have l1 : (j : Int) < (s.size : Int) := by omega
      have l2 : (j : Int) ≤ (s.size : Int) := by omega
      have l0 : (0 : Int) ≤ (j : Int) := by omega
      obtain ⟨f, rfl⟩ : ∃ g, f = g + 1 := ⟨f - 1, by omega⟩
      obtain ⟨L, hL⟩ : ∃ L, s.data.toList.drop j = L := ⟨_, rfl⟩
      have hLl : L.length = s.size - j := by rw [← hL]; simp
      have hLn : L ≠ [] := fun e => by rw [e] at hLl; simp at hLl; omega
      rw [hL] at hrel
      have hklt : k < G.length := by
        rcases Nat.lt_or_ge k G.length with h | h
        · exact h
        · exfalso
          rw [List.drop_of_length_le h, wkl, if_neg hLn] at hrel
          cases ht : tok L <;> rw [ht] at hrel <;> simp at hrel
      have hGk : G.drop k = G[k] :: G.drop (k + 1) := List.drop_eq_getElem_cons hklt
      have hgd : G.getD k (⟨0, 0, []⟩, 0) = G[k] := by simp [List.getD, hklt]
      have HTk : Hid ((List.finRange G.length).take k ++ [⟨k, hklt⟩] = (List.finRange G.length).take (k + 1)) := by
        show _ = _
        rw [List.take_add_one, List.getElem?_eq_getElem (by rw [List.length_finRange]; exact hklt)]
        simp
      have HF := hide (HFi.out wr j hlt hEr)
      rw [ext_drop, hL] at HF
      have HYk : ∀ C, encT G k = C → Hid (∀ W', J ((List.finRange G.length).take k) W' → YieldAt Fence.wide (n - 1) Tryd.prog lp C W' fun e W'' =>
          (e = .returned (.bool true) ∧ J ((List.finRange G.length).take (k + 1)) W'' ∧ Kp W' W'') ∨ (e = .returned (.bool false) ∧ Jx ((List.finRange G.length).take (k + 1)) W'')) := fun C hC W' h => by
        rw [← hC, ← HTk.out]
        exact hY _ ⟨k, hklt⟩ W' h (by rw [List.length_take, List.length_finRange]; omega)
      have HJn := hide (fun (w1 : World) (hb : Below wr.heap.size wr w1) (o : Obj) => HJa.out _ _ _ none hJs (grown_of_below (below_trans hb (below_alloc w1 o))) (fun r e => by cases e))
      have HAr := hide hAr
      have HEr := hide hEr
      have HTd : Hid ((List.finRange G.length).take (k + 1) ++ (List.finRange G.length).drop (k + 1) = List.finRange G.length) := List.take_append_drop _ _
      cases htk : tok L with
      | none =>
        rw [wkl_bad hLn htk, hGk] at hrel
        have hg : G[k] = (⟨0, j, []⟩, j) := (List.cons.inj hrel).1.symm
        have hend : G.length ≤ k + 1 := by
          have := (List.cons.inj hrel).2.symm
          exact List.drop_eq_nil_iff.1 this
        have hf : fstV L = .tuple #[.agg #[.int .i64 0, .int .i64 0, .string ⟨#[]⟩], .int .i64 0] := by unfold fstV; rw [htk]
        rw [hf] at HF
        have HYk := HYk #[.agg #[.int .i64 0, .int .i64 (j : Int), .string ⟨#[]⟩], .int .i64 (j : Int)] (by unfold encT; rw [hgd, hg]; rfl)
        have hw : IntKind.i64.wrap ((j : Int) + 0) = (j : Int) := by rw [IntKind.wrap_i64]; omega
        clear hf hL hLl hLn hrel hJs hAr hEr htk hGk hgd hY
        gi_wp2_with (first
          | ((refine ⟨trivial, (fun h => absurd h (by decide)), ?_⟩); gi_at_call 40; refine CallsIn.mono (callsIn_wide.2 HF.out) ?_; rintro e' w1 ⟨rfl, hb⟩; have HB1 := hide hb; clear hb; obtain ⟨fn, tmps, assign, body, hy, hR⟩ := HYk.out _ (HJn.out w1 HB1.out (.cells #[.int .i64 0, .int .i64 (j : Int), .string ⟨#[]⟩] 39)); have HR := hide hR; clear hR))
        refine ⟨(fun h => absurd h (by decide)), HR.out.mono ?_⟩
        rintro e W3 (⟨rfl, hJ3, hk3⟩ | ⟨rfl, hJx3⟩)
        · have hB3 : Blk W3 w1.heap.size #[.int .i64 0, .int .i64 (j : Int), .string ⟨#[]⟩] 39 := (HK.out _ _ hk3).2.2 _ _ (Blk.new w1 _ _) rfl
          have c3 := hB3.cell 0
          have HJ3 := hide hJ3
          clear hk3 hJ3 hB3
          gi_wp2
          refine bodyPost_ret (results_none rfl _ _ _) rfl ?_
          refine ⟨⟨_, rfl⟩, .inl ⟨_, rfl, ?_⟩⟩
          have := HJ3.out
          rw [List.take_of_length_le (by rw [List.length_finRange]; exact hend)] at this
          exact this
        · gi_wp2
          refine bodyPost_ret (results_none rfl _ _ _) rfl ?_
          exact ⟨⟨_, rfl⟩, .inr ⟨_, ⟨_, HTd.out⟩, hJx3⟩⟩
      | some x =>
        obtain ⟨m, kd⟩ := x
        rw [wkl_ok hLn htk, hGk] at hrel
        obtain ⟨hg, hrel2⟩ := List.cons.inj hrel
        clear hrel
        have hrel := hrel2
        clear hrel2
        have hm := tok_le _ _ _ htk
        rw [hLl] at hm
        have hkd : 1 ≤ kd := by
          cases hLc : L with
          | nil => exact absurd hLc hLn
          | cons c r => rw [hLc] at htk; exact (tok_kind htk).1
        have hf : fstV L = .tuple #[.agg #[.int .i64 (kd : Int), .int .i64 0, .string ⟨(tokT (L.take m) kd).toArray⟩], .int .i64 (m : Int)] := by unfold fstV; rw [htk]
        rw [hf] at HF
        obtain ⟨jm, hjm⟩ : ∃ jm, j + m = jm := ⟨_, rfl⟩
        rw [hjm] at hg
        have HYk := HYk #[.agg #[.int .i64 (kd : Int), .int .i64 (j : Int), .string ⟨(tokT (L.take m) kd).toArray⟩], .int .i64 (jm : Int)] (by unfold encT; rw [hgd, ← hg]; rfl)
        generalize tokT (L.take m) kd = T at *
        have hw : IntKind.i64.wrap ((j : Int) + (m : Int)) = (jm : Int) := by rw [IntKind.wrap_i64]; omega
        have e0 : ((kd : Int) == 0) = false := by simp; omega
        have hdd : L.drop m = s.data.toList.drop jm := by rw [← hL, List.drop_drop, hjm]
        have hsk := skp_le false (s.data.toList.drop jm)
        simp only [List.length_drop, Array.length_toList, ByteArray.size_data] at hsk
        have HBn := hide (fun V => HBh.out V jm (by omega))
        rw [hdd] at hrel
        generalize skp false (s.data.toList.drop jm) = z at *
        rw [← hL, List.drop_drop] at hrel
        rw [show j + (m + z) = jm + z by omega, hjm] at hrel
        have HN := hide hrel
        have hm2 : jm ≤ s.size := by omega
        have HM2 : Hid (j < jm) := (show j < jm by omega)
        have HM := hide hm
        clear hf hL hLl hLn hrel hJs hAr hEr htk hGk hgd hY hg hdd hkd hjm
        gi_wp2_with (first
          | ((refine ⟨trivial, (fun h => absurd h (by decide)), ?_⟩); gi_at_call 40; refine CallsIn.mono (callsIn_wide.2 HF.out) ?_; rintro e' w1 ⟨rfl, hb⟩; have HB1 := hide hb; clear hb; obtain ⟨fn, tmps, assign, body, hy, hR⟩ := HYk.out _ (HJn.out w1 HB1.out (.cells #[.int .i64 (kd : Int), .int .i64 (j : Int), .string ⟨T.toArray⟩] 39)); have HR := hide hR; clear hR))
        refine ⟨(fun h => absurd h (by decide)), HR.out.mono ?_⟩
        rintro e W3 (⟨rfl, hJ3, hk3⟩ | ⟨rfl, hJx3⟩)
        · have hK3 := HK.out _ _ hk3
          have hB3 : Blk W3 w1.heap.size #[.int .i64 (kd : Int), .int .i64 (j : Int), .string ⟨T.toArray⟩] 39 := hK3.2.2 _ _ (Blk.new w1 _ _) rfl
          have hA3 : Blk W3 A #[.string s] 9 := hK3.1.trans (Blk.later HAr.out (below_trans HB1.out (below_alloc w1 _)))
          have HE3 := hide ((HEr.out.below (below_trans HB1.out (below_alloc w1 _))).kept hK3)
          have c3 := hB3.cell 0
          have cA3 := hA3.cell 0
          have HJ3 := hide hJ3
          have HA3 := hide hA3
          clear hk3 hJ3 hB3 hK3 hA3
          gi_wp2_with (first
            | ((refine ⟨trivial, (fun h => absurd h (by decide)), ?_⟩); gi_at_call 39; refine CallsIn.mono (callsIn_wide.2 (HBn.out _)) ?_; rintro e' w4 ⟨rfl, rfl⟩))
          go_roundw
          case rel => exact ⟨k + 1, jm + z, f, hklt, by omega, rfl, by have := HM2.out; omega, HN.out, HJ3.out, HA3.out, HE3.out⟩
          case measure => have := HM2.out; simp [intOf]; omega
        · gi_wp2
          refine bodyPost_ret (results_none rfl _ _ _) rfl ?_
          exact ⟨⟨_, rfl⟩, .inr ⟨_, ⟨_, HTd.out⟩, hJx3⟩⟩
    · obtain rfl : j = s.size := by omega
      have m1 : ¬ (s.size : Int) < (s.size : Int) := by omega
      rw [List.drop_of_length_le (by simp), wkl_nil] at hrel
      have hkG : G.length ≤ k := List.drop_eq_nil_iff.1 hrel.symm
      gi_wp2
      go_end0
      rw [List.take_of_length_le (by rw [List.length_finRange]; exact hkG)] at hJs
      exact ⟨⟨_, rfl⟩, .inl hJs⟩
theorem walk_stops (s : ByteArray) (hs : s.size ≤ 4294967280) (G : List (Tk × Nat)) (hG : wklS s.data.toList = G) (n A : Nat) (Kp : World → World → Prop) (hKp : ∀ X Y, Kp X Y → KpT A X Y) (w : World) (hA : Blk w A #[.string s] 9) (hE : Env w) :
    SeqStopsK Fence.wide n Tryd.prog 38 #[.pointer (some ⟨A, 0, none⟩)] (fun x : Fin G.length => encT G x.val) Kp (fun ys => ys = List.finRange G.length) (fun pre => ∃ r, pre ++ r = List.finRange G.length) G.length w := fun lp J Jx W hW hJ _ hY h0 =>
  walk1_in s hs G hG n lp A Kp hKp J Jx hY W hJ (hA.later hW) (hE.below hW) h0
end Go.Proofs.YtkooijhdjjdigaaDoor
