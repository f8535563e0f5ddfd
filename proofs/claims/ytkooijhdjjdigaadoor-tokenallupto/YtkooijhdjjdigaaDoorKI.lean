/- The document's tokens of a text. -/
import Derived.Test.YtkooijhdjjdigaaDoorKH
namespace Go.Proofs.YtkooijhdjjdigaaDoor
open Go.ChangeShapes Go.WideShapes Go.ChangeAt Go.RowKit
set_option linter.unusedVariables false

structure Tk where
  k : Nat
  a : Nat
  t : List UInt8
deriving DecidableEq
def tkC (x : Tk) : List Value := [.int .i64 (x.k : Int), .int .i64 (x.a : Int), .string ⟨x.t.toArray⟩]
def tkL (l : List Tk) : List Value := l.flatMap tkC
theorem tkL_append (l r : List Tk) : tkL (l ++ r) = tkL l ++ tkL r := by simp [tkL]
theorem tkL_one (x : Tk) : tkL [x] = tkC x := by simp [tkL]
theorem tkL_length (l : List Tk) : (tkL l).length = l.length * 3 := by
  induction l with
  | nil => rfl
  | cons x l ih => rw [show x :: l = [x] ++ l from rfl, tkL_append, tkL_one, List.length_append, ih]; simp [tkC]; omega
def inL (l : List Nat) : List Value := l.map fun (x : Nat) => .int .i64 (x : Int)
theorem inL_append (l r : List Nat) : inL (l ++ r) = inL l ++ inL r := by simp [inL]
theorem inL_length (l : List Nat) : (inL l).length = l.length := by simp [inL]
/-- The tokens from a place on, where they end, and the place that is wrong; -1: none is. -/
def toks : Nat → List UInt8 → Nat → List Tk × List Nat × Int
  | 0, _, _ => ([], [], -1)
  | f + 1, l, a => if l = [] then ([], [], -1) else match tok l with
    | none => ([], [], (a : Int))
    | some (n, k) =>
      (⟨k, a, tokT (l.take n) k⟩ :: (toks f (l.drop (n + skp false (l.drop n))) (a + n + skp false (l.drop n))).1,
       (a + n) :: (toks f (l.drop (n + skp false (l.drop n))) (a + n + skp false (l.drop n))).2.1,
       (toks f (l.drop (n + skp false (l.drop n))) (a + n + skp false (l.drop n))).2.2)
def toksS (l : List UInt8) : List Tk × List Nat × Int := toks (l.length + 1) (l.drop (skp false l)) (skp false l)
theorem toks_nil (f a : Nat) : toks f [] a = ([], [], -1) := by cases f <;> simp [toks]
theorem toks_bad {f a : Nat} {c : UInt8} {l : List UInt8} (h : tok (c :: l) = none) : toks (f + 1) (c :: l) a = ([], [], (a : Int)) := by
  rw [toks, if_neg (by simp), h]
theorem toks_ok {f a n k : Nat} {c : UInt8} {l : List UInt8} (h : tok (c :: l) = some (n, k)) : toks (f + 1) (c :: l) a =
    (⟨k, a, tokT ((c :: l).take n) k⟩ :: (toks f ((c :: l).drop (n + skp false ((c :: l).drop n))) (a + n + skp false ((c :: l).drop n))).1,
       (a + n) :: (toks f ((c :: l).drop (n + skp false ((c :: l).drop n))) (a + n + skp false ((c :: l).drop n))).2.1,
       (toks f ((c :: l).drop (n + skp false ((c :: l).drop n))) (a + n + skp false ((c :: l).drop n))).2.2) := by
  rw [toks, if_neg (by simp), h]
theorem tok_kind {c : UInt8} {r : List UInt8} {n k : Nat} (h : tok (c :: r) = some (n, k)) : 1 ≤ k ∧ k ≤ 6 ∧ (k = 3 → 2 ≤ n) ∧ (k = 4 → 3 ≤ n) := by
  rw [tok] at h
  split at h
  · cases hq : quo r with
    | none => rw [hq] at h; simp at h
    | some m => rw [hq] at h; have := quo_le r m hq; simp at h; omega
  split at h
  · cases hq : blo false r.tail with
    | none => rw [hq] at h; simp at h
    | some m => rw [hq] at h; have := blo_le _ _ m hq; simp at h; omega
  split at h
  · simp at h; omega
  split at h
  · simp at h; omega
  split at h
  · simp at h; omega
  split at h
  · simp at h; omega
  split at h
  · simp at h; omega
  · simp at h
theorem tokE_some {l : List UInt8} {a n k : Nat} (h : tok l = some (n, k)) : tokE l a = ((a + n : Nat) : Int) ∧ tokK l = k := by
  unfold tokE tokK; rw [h]; exact ⟨rfl, rfl⟩
theorem tokE_none {l : List UInt8} {a : Nat} (h : tok l = none) : tokE l a = -1 := by
  unfold tokE; rw [h]

set_option maxHeartbeats 2000000 in
set_option maxRecDepth 10000 in
theorem tokens_e (s : ByteArray) (hs : s.size ≤ 4000000000000) (w : World) :
    Calls Tryd.prog 13 #[.string s] w fun e w' => ∃ v1 v2, e = .returned (.tuple #[v1, v2, .int .i64 (toksS s.data.toList).2.2]) ∧ w'.ownsRow w.heap.size 39 3 v1 (toksS s.data.toList).1.length (tkL (toksS s.data.toList).1) ∧ w'.ownsRow w.heap.size 3 1 v2 (toksS s.data.toList).2.1.length (inL (toksS s.data.toList).2.1) ∧ Below w.heap.size w w' := by
  have hs2 : s.size ≤ 140737488355328 := by omega
  obtain ⟨R, hR⟩ : ∃ R, toksS s.data.toList = R := ⟨_, rfl⟩
  rw [hR]
  have HSk : Hid (∀ V (j : Nat), j ≤ s.size → Calls Tryd.prog 25 #[.string s, .int .i64 (j : Int)] V fun e w' => e = .returned (.int .i64 ((j + skp false (s.data.toList.drop j) : Nat) : Int)) ∧ V = w') := fun V j hj => skip_e s hs2 j hj V
  obtain ⟨a0, ha0⟩ : ∃ a0, skp false s.data.toList = a0 := ⟨_, rfl⟩
  have hsk0 := skp_le false s.data.toList
  have hlen : s.data.toList.length = s.size := by simp
  have H0 : Hid (∀ V, Calls Tryd.prog 25 #[.string s, .int .i64 0] V fun e w' => e = .returned (.int .i64 (a0 : Int)) ∧ V = w') := fun V => by
    have := HSk.out V 0 (Nat.zero_le _)
    rw [List.drop_zero, ha0, Nat.zero_add] at this
    exact this
  have HRR := hide hR
  unfold toksS at hR
  rw [ha0, hlen] at hR
  rw [ha0, hlen] at hsk0
  have HR := hide hR
  clear hR ha0
  go_enter Tryd.func13, Tryd.ntmps13
  go_upto_region 4 with (first
    | (go_at_call 25; (with_reducible refine Calls.mono (H0.out _) ?_); rintro e w5 ⟨rfl, rfl⟩))
  go_loopw [5, 6, 7] (fun ov ev av wr => ∃ (j f : Nat) (L : List Tk) (E : List Nat), j ≤ s.size ∧ s.size < f + j ∧ av = .int .i64 (j : Int) ∧ wr.ownsRow w.heap.size 39 3 ov L.length (tkL L) ∧ wr.ownsRow w.heap.size 3 1 ev E.length (inL E) ∧ R = (L ++ (toks f (s.data.toList.drop j) j).1, E ++ (toks f (s.data.toList.drop j) j).2.1, (toks f (s.data.toList.drop j) j).2.2) ∧ L.length ≤ j ∧ E.length = L.length ∧ Below w.heap.size w wr) (fun _ _ av _ => s.size - (intOf av).toNat)
  case atStart => exact ⟨a0, s.size + 1, [], [], hsk0, by omega, rfl, World.ownsRow_nil _ _ _ _, World.ownsRow_nil _ _ _ _, by rw [HR.out]; rfl, by simp, rfl, Below.refl _ _⟩
  case round =>
    clear hsk0
    obtain ⟨j, f, L, E, hj, hf, rfl, hoT, hoE, hrel, hLj, hEL, hbel⟩ := hrel
    have HT := hide hoT
    have HE := hide hoE
    have HB := hide hbel
    have HS := hide hbel.size
    clear hoT hoE hbel
    by_cases hlt : j < s.size
    · have l1 : (j : Int) < (s.size : Int) := by omega
      have l0 : (0 : Int) ≤ (j : Int) := by omega
      obtain ⟨f, rfl⟩ : ∃ g, f = g + 1 := ⟨f - 1, by omega⟩
      have hdr := drop_next s j hlt
      obtain ⟨c, hc⟩ : ∃ c : UInt8, s[j]'hlt = c := ⟨_, rfl⟩
      rw [hc] at hdr
      have hE := fun V => end_e s hs2 j hlt V
      cases htk : tok (s.data.toList.drop j) with
      | none =>
        rw [tokE_none htk] at hE
        obtain ⟨K, hK⟩ : ∃ K : Nat, tokK (s.data.toList.drop j) = K := ⟨_, rfl⟩
        rw [hK] at hE
        have HEn := hide hE
        rw [hdr] at htk
        rw [hdr, toks_bad htk] at hrel
        simp only [List.append_nil] at hrel
        have HN := hide hrel
        clear hE hK hrel htk hdr hc
        go_wp2_with (first
          | (go_at_call 26; (with_reducible refine Calls.mono (HEn.out _) ?_); rintro e w5 ⟨rfl, rfl⟩))
        go_returns
        rw [HN.out]
        exact ⟨_, _, rfl, HT.out, HE.out, HB.out⟩
      | some nk =>
        obtain ⟨n, k⟩ := nk
        have hle := tok_le _ _ _ htk
        rw [List.length_drop, hlen] at hle
        obtain ⟨hE1, hE2⟩ := tokE_some (a := j) htk
        rw [hE1, hE2] at hE
        obtain ⟨d, hd⟩ : ∃ d, j + n = d := ⟨_, rfl⟩
        rw [hd] at hE
        have HEn := hide hE
        have htk2 := htk
        rw [hdr] at htk2
        have hkk := tok_kind htk2
        have hnd : ¬ (d : Int) < 0 := by omega
        have m1 : (j : Int) ≤ (d : Int) := by omega
        have m2 : (d : Int) ≤ (s.size : Int) := by omega
        have hex := ext_list s j d
        have htake : (s.data.toList.take d).drop j = (s.data.toList.drop j).take n := by rw [← hd, List.take_drop]
        rw [htake] at hex
        have hxs : (s.extract j d).size = n := by rw [ByteArray.size_extract]; omega
        have hBy := fun V => rbytes_e (s.extract j d) (by omega) k (by omega) (by omega) (by omega) V
        rw [hex] at hBy
        obtain ⟨TL, hTL⟩ : ∃ TL, tokT ((s.data.toList.drop j).take n) k = TL := ⟨_, rfl⟩
        rw [hTL] at hBy
        have HBy := hide hBy
        obtain ⟨j2, hj2⟩ : ∃ j2, d + skp false (s.data.toList.drop d) = j2 := ⟨_, rfl⟩
        have hsk := skp_le false (s.data.toList.drop d)
        rw [List.length_drop, hlen] at hsk
        have HS2 : Hid (∀ V, Calls Tryd.prog 25 #[.string s, .int .i64 (d : Int)] V fun e w' => e = .returned (.int .i64 (j2 : Int)) ∧ V = w') := fun V => by rw [← hj2]; exact HSk.out V d (by omega)
        have hdd : (s.data.toList.drop j).drop n = s.data.toList.drop d := by rw [List.drop_drop, hd]
        have hdd2 : (s.data.toList.drop j).drop (n + skp false (s.data.toList.drop d)) = s.data.toList.drop j2 := by rw [List.drop_drop, ← hj2, ← hd]; congr 1; omega
        have hst : toks (f + 1) (s.data.toList.drop j) j = (⟨k, j, TL⟩ :: (toks f (s.data.toList.drop j2) j2).1, d :: (toks f (s.data.toList.drop j2) j2).2.1, (toks f (s.data.toList.drop j2) j2).2.2) := by
          rw [hdr, toks_ok htk2, ← hdr, hdd, hdd2, hTL, hd, hj2]
        rw [hst] at hrel
        have HN : Hid (R = ((L ++ [⟨k, j, TL⟩]) ++ (toks f (s.data.toList.drop j2) j2).1, (E ++ [d]) ++ (toks f (s.data.toList.drop j2) j2).2.1, (toks f (s.data.toList.drop j2) j2).2.2)) := by
          rw [hrel]; simp [Hid]
        have N1 : Hid ((L.length + 1) * 32 ≤ 140737488355328) := (show (L.length + 1) * 32 ≤ 140737488355328 by omega)
        have N2 : Hid (L.length + 1 ≤ 140737488355328) := (show L.length + 1 ≤ 140737488355328 by omega)
        have N3 : Hid ((E.length + 1) * 8 ≤ 140737488355328) := (show (E.length + 1) * 8 ≤ 140737488355328 by omega)
        have N4 : Hid (E.length + 1 ≤ 140737488355328) := (show E.length + 1 ≤ 140737488355328 by omega)
        have hj2s : j2 ≤ s.size := by omega
        have hjd : j < d := by omega
        have hdj2 : d ≤ j2 := by omega
        clear hE hE1 hE2 hrel htk htk2 hdr hc hBy hex htake hxs hTL hj2 hsk hdd hdd2 hst hkk hle hd
        go_wp2_with (first
          | (go_at_call 26; (with_reducible refine Calls.mono (HEn.out _) ?_); rintro e w5 ⟨rfl, rfl⟩)
          | (go_at_call 27; (with_reducible refine Calls.mono (HBy.out _) ?_); rintro e w6 ⟨rfl, hb6⟩; have HT6 := hide (own_below HT.out hb6); have HE6 := hide (own_below HE.out hb6); have HB6 := hide (HB.out.trans (hb6.mono HS.out)); have HS6 := hide (Nat.le_trans HS.out hb6.size); clear hb6)
          | (at_builtin; refine wp_appT 22 39 3 32 Tryd.underlying22 infoTok (by decide) (tkC ⟨k, j, TL⟩) (m := 1) (by rfl) (by decide) (by simp [tkC, Value.oneCell']) HT6.out N1.out N2.out HS6.out _ _ (by rfl) (by rfl) (by rfl) (by rfl) ?_; intro g7 cap7 w7 hown7 hA7 hO7 hs7; have HT7 := hide hown7; have HE7 := hide (hO7 _ _ _ _ _ _ (by decide) HE6.out); have HB7 := hide (hA7 _ HB6.out); have HS7 := hide (Nat.le_trans HS6.out hs7); clear hown7 hA7 hO7 hs7)
          | (at_builtin; refine wp_appT 31 3 1 8 Tryd.underlying31 infoInt (by decide) (inL [d]) (m := 1) (by rfl) (by decide) (by simp [inL, Value.oneCell']) HE7.out N3.out N4.out HS7.out _ _ (by rfl) (by rfl) (by rfl) (by rfl) ?_; intro g8 cap8 w8 hown8 hA8 hO8 hs8; have HE8 := hide hown8; have HT8 := hide (hO8 _ _ _ _ _ _ (by decide) HT7.out); have HB8 := hide (hA8 _ HB7.out); clear hown8 hA8 hO8 hs8)
          | (go_at_call 25; (with_reducible refine Calls.mono (HS2.out _) ?_); rintro e w9 ⟨rfl, rfl⟩))
        go_roundw
        case rel => exact ⟨j2, f, L ++ [⟨k, j, TL⟩], E ++ [d], hj2s, by omega, rfl, by rw [List.length_append, tkL_append, tkL_one]; exact HT8.out, by have h := HE8.out; rw [hEL] at h; rw [List.length_append, inL_append, hEL]; exact h, HN.out, by simp; omega, by simp [hEL], HB8.out⟩
        case measure => simp [intOf]; omega
    · have hje : j = s.size := by omega
      have l1 : ¬ (s.size : Int) < (s.size : Int) := by omega
      subst hje
      rw [List.drop_of_length_le (by simp), toks_nil] at hrel
      simp only [List.append_nil] at hrel
      have HN := hide hrel
      clear hrel
      go_wp2
      go_returns
      rw [HN.out]
      exact ⟨_, _, rfl, HT.out, HE.out, HB.out⟩
end Go.Proofs.YtkooijhdjjdigaaDoor
