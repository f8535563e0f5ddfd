/- The document's Bytes, of a text. -/
import Derived.Test.YtkooijhdjjdigaaDoorKE
import Derived.Deep.AppendLies
import Derived.Laws.IdiomStrings
import Derived.Lib.BufferRead
import Derived.ArgAppend
import Derived.OwnWalk
namespace Go.Proofs.YtkooijhdjjdigaaDoor
open Go.ChangeShapes Go.WideShapes Go.ChangeAt Go.RowKit
set_option linter.unusedVariables false


def bcs (l : List UInt8) : List Value := l.map fun b => .int .u8 (b.toNat : Int)
theorem length_bcs (l : List UInt8) : (bcs l).length = l.length := by simp [bcs]
theorem bcs_append (l r : List UInt8) : bcs (l ++ r) = bcs l ++ bcs r := by simp [bcs]
abbrev OwnB (w : World) (base : Nat) (v : Value) (l : List UInt8) : Prop := w.ownsRow base 5 1 v l.length (bcs l)
theorem info5' : (Tryd.prog.info? 5).map (fun i => (i.zero, i.size, i.bytes)) = some (some (.int .u8 0), 1, 1) := by kernel_rfl
theorem take_next (t : ByteArray) (k : Nat) (h : k < t.size) : t.data.toList.take (k + 1) = t.data.toList.take k ++ [t[k]'h] := by
  rw [List.take_add_one]
  have : t.data.toList[k]? = some (t[k]'h) := by
    rw [Array.getElem?_toList]
    exact Array.getElem?_eq_getElem _
  rw [this]; rfl
theorem below_row {B : Nat} {w w1 w2 : World} {v : Value} {n : Nat} {xs : List Value} (h : Below B w w1) (ho : w1.ownsRow B 5 1 v n xs) (hB : B ≤ w1.heap.size) (hg : w1.grownBy w2 v.ownBlock) : Below B w w2 := by
  refine h.grown hg hB ?_
  intro k hk
  rcases ho.2 with ⟨rfl, _⟩ | ⟨g, cap, cur, rfl, hb, _⟩
  · cases hk
  · cases hk; exact hb
theorem own_step {w2 : World} {base g cap : Nat} {l l' d : List UInt8} (h : w2.ownsRow base 5 1 (.slice (some ⟨g, 0, none⟩) (l.length + d.length) cap) (l.length + d.length) (bcs l ++ bcs d)) (e : l' = l ++ d) :
    OwnB w2 base (.slice (some ⟨g, 0, none⟩) (l.length + d.length) cap) l' := by
  subst e
  unfold OwnB
  rw [bcs_append, List.length_append]
  exact h
theorem conv_own {w : World} {base : Nat} {v : Value} {l : List UInt8} (h : OwnB w base v l) : (convert 62 9 v).run Tryd.prog w = .ok (.string ⟨l.toArray⟩) w := by
  rcases h.2 with ⟨rfl, hn⟩ | ⟨g, cap, cur, rfl, hb, hg, hnc, hcm, hcs, htake⟩
  · obtain rfl : l = [] := List.eq_nil_of_length_eq_zero hn
    exact Lib.run_convert_nil_bytes w _ _ 5 0 Tryd.underlying62 Tryd.underlying5 Tryd.underlying9
  · refine run_convert_bytes_back w _ _ 5 ⟨g, 0, none⟩ cap l Tryd.underlying62 Tryd.underlying5 Tryd.underlying9 ?_
    intro j hj
    exact h.cells (g := g) rfl j _ (by simp [bcs, hj])
theorem wp_app {ops : Array Oper} {rest : List Oper} {o : Oper} {a : Act} {Q : Exit → Act → World → Prop} {w : World} (hgd : o.guard = none) (s x : Operand)
    (ho : o.op = .call { callee := .builtin .append, args := #[s, x], argTypes := #[62, 62] }) (base : Nat) (v : Value) (l d : List UInt8) (C : Array Value) (hC : C = (bcs d).toArray)
    (hs : a.eval s = v) (hown : OwnB w base v l) (hx : a.eval x = .slice (some ⟨w.heap.size, 0, none⟩) d.length d.length) (hd : 0 < d.length) (hsz : l.length + d.length ≤ 140737488351232) (hbase : base ≤ w.heap.size)
    (h : ∀ g cap w', OwnB w' base (.slice (some ⟨g, 0, none⟩) (l.length + d.length) cap) (l ++ d) → Below base w w' → base ≤ w'.heap.size → wpList Tryd.prog ops Q rest (a.put o.dst (.slice (some ⟨g, 0, none⟩) (l.length + d.length) cap)) w') :
    wpList Tryd.prog ops Q (o :: rest) a (w.alloc (.cells C 5)) := by
  subst hC
  obtain ⟨i0, hi0, hz0, hz1, hz2⟩ := info_parts info5'
  refine wpList_append_lies _ hgd s x 62 ho base 5 i0 (.int .u8 0) 1 1 Tryd.underlying62 hi0 hz0 hz1 hz2 rfl (by omega) v l.length (bcs l) hs (hown.alloc _) ⟨w.heap.size, 0, none⟩ d.length d.length (bcs d) hx (by simp [length_bcs]) (World.news_of_block (cs := (bcs d).toArray) (t := 5) (fr := (0, 0)) (heap_alloc_new w _)) ?_ hd (by unfold maxLen; omega) (by omega) (by simp; omega) (w.heap.size + 1) (by simp) ?_
  · intro u hu
    simp only [bcs, List.mem_map] at hu
    obtain ⟨b, _, rfl⟩ := hu
    rfl
  · intro g cap w1 hown1 hgrow hat hlt
    have hb : Below base w w1 := below_row ((Below.refl base w).alloc hbase _) (hown.alloc _) (by simp; omega) hgrow
    exact h g cap w1 (own_step hown1 rfl) hb (Nat.le_trans hbase hb.size)
def unq : List UInt8 → Option (List UInt8)
  | [] => some []
  | [c] => if c = 39 then none else some [c]
  | c :: d :: r => if c = 39 then (if d = 39 then (unq r).map (39 :: ·) else none) else (unq (d :: r)).map (c :: ·)

theorem unq_cons {c : UInt8} (hc : c ≠ 39) (r : List UInt8) : unq (c :: r) = (unq r).map (c :: ·) := by
  cases r with
  | nil => simp [unq, hc]
  | cons d r => rw [unq, if_neg hc]
theorem unq_two (r : List UInt8) : unq (39 :: 39 :: r) = (unq r).map (39 :: ·) := by rw [unq, if_pos rfl, if_pos rfl]

theorem nib_lt {c : UInt8} {a : Nat} (h : nibR c = some a) : a < 16 := by
  unfold nibR at h
  split at h
  · injection h with h; omega
  · split at h
    · injection h with h; omega
    · cases h
def unhx : List UInt8 → Option (List UInt8)
  | [] => some []
  | [_] => none
  | a :: b :: r => match nibR a, nibR b with
    | some x, some y => (unhx r).map (UInt8.ofNat (x * 16 + y) :: ·)
    | _, _ => none



def bytV (o : Option (List UInt8)) : Value := match o with | some l => .tuple #[.string ⟨l.toArray⟩, .bool true] | none => .tuple #[.string ⟨#[]⟩, .bool false]

theorem map_cat (o : Option (List UInt8)) (l d : List UInt8) : (o.map (d ++ ·)).map (l ++ ·) = o.map ((l ++ d) ++ ·) := by
  cases o <;> simp

set_option maxHeartbeats 2000000 in
set_option maxRecDepth 10000 in
theorem bytes_text (s : ByteArray) (hs : s.size ≤ 140737488351232) (w : World) : Calls Tryd.prog 48 #[.string s, .bool false] w fun e w' => e = .returned (bytV (unq s.data.toList)) ∧ Below w.heap.size w w' := by
  go_enter Tryd.func48, Tryd.ntmps48
  go_wp2
  go_loopw [6, 7] (fun v i wr => ∃ (j : Nat) (l : List UInt8), j ≤ s.size ∧ l.length ≤ j ∧ i = .int .i64 j ∧ OwnB wr w.heap.size v l ∧ unq s.data.toList = (unq (s.data.toList.drop j)).map (l ++ ·) ∧ Below w.heap.size w wr) (fun _ i _ => s.size - (intOf i).toNat)
  case atStart => exact ⟨0, [], Nat.zero_le _, Nat.le_refl _, rfl, World.ownsRow_nil _ _ _ _, by simp, Below.refl _ _⟩
  case round =>
    obtain ⟨j, l, hj, hll, rfl, hown, hrel, hbel⟩ := hrel
    have HO : Hid (OwnB wr w.heap.size u6 l) := hown
    have HB : Hid (Below w.heap.size w wr) := hbel
    have HS : Hid (w.heap.size ≤ wr.heap.size) := hbel.size
    clear hown hbel
    by_cases hlt : j < s.size
    · have l1 : (j : Int) < (s.size : Int) := by omega
      have l0 : (0 : Int) ≤ (j : Int) := by omega
      obtain ⟨c, hc⟩ : ∃ c : UInt8, s[j]'hlt = c := ⟨_, rfl⟩
      have hdr := drop_next s j hlt
      rw [hc] at hdr
      rw [hdr] at hrel
      by_cases h39 : c = 39
      · subst h39
        have hb : ∀ (h : j < s.size), ((s[j]'h).toNat : Int) = 39 := fun h => by rw [hc]; rfl
        by_cases hlt2 : j + 1 < s.size
        · have m1 : ¬ (s.size : Int) ≤ (j : Int) + 1 := by omega
          have m2 : (j : Int) + 1 < (s.size : Int) := by omega
          have m3 : (0 : Int) ≤ (j : Int) + 1 := by omega
          have m4 : ((j : Int) + 1).toNat = j + 1 := by omega
          have hw1 : IntKind.i64.wrap ((j : Int) + 1) = (j : Int) + 1 := by rw [IntKind.wrap_i64]; omega
          obtain ⟨d, hd⟩ : ∃ d : UInt8, s[j + 1]'hlt2 = d := ⟨_, rfl⟩
          have hdr2 := drop_next s (j + 1) hlt2
          rw [hd] at hdr2
          rw [hdr2] at hrel
          by_cases hd39 : d = 39
          · subst hd39
            have hb2 : ∀ (h : j + 1 < s.size), ((s[j + 1]'h).toNat : Int) = 39 := fun h => by rw [hd]; rfl
            have HR : Hid (unq s.data.toList = (unq (s.data.toList.drop (j + 1 + 1))).map ((l ++ [39]) ++ ·)) := (show unq s.data.toList = (unq (s.data.toList.drop (j + 1 + 1))).map ((l ++ [39]) ++ ·) by rw [hrel, unq_two, ← map_cat]; rfl)
            clear hrel hdr hc hd hdr2
            go_wp2_with (first
              | (at_builtin; refine wp_app (by rfl) _ _ (by rfl) w.heap.size u6 l [39] _ (by rfl) (by rfl) HO.out (by rfl) (by decide) (by simp; omega) HS.out ?_; intro g3 cap3 w3 hown3 hbel3 hsz3))
            go_roundw
            case rel => exact ⟨j + 1 + 1, l ++ [39], by omega, by simp; omega, by simp, by simpa using hown3, HR.out, HB.out.trans hbel3⟩
            case measure => simp [intOf]; omega
          · have hb2 : ∀ (h : j + 1 < s.size), ((s[j + 1]'h).toNat : Int) = (d.toNat : Int) := fun h => by rw [hd]
            have hn2 : ((d.toNat : Int) == 39) = false := by
              simp
              intro e
              exact hd39 (UInt8.toNat_inj.1 (by simpa using Int.ofNat_inj.1 e))
            have HN : Hid (unq s.data.toList = none) := (show unq s.data.toList = none by rw [hrel, unq, if_pos rfl, if_neg hd39]; rfl)
            clear hrel hdr hc hd hdr2
            go_wp2
            go_ret2
            rw [HN.out]
            exact ⟨rfl, HB.out⟩
        · have m1 : (s.size : Int) ≤ (j : Int) + 1 := by omega
          have hw1 : IntKind.i64.wrap ((j : Int) + 1) = (j : Int) + 1 := by rw [IntKind.wrap_i64]; omega
          have HN : Hid (unq s.data.toList = none) := (show unq s.data.toList = none by rw [hrel, List.drop_of_length_le (by simp; omega)]; simp [unq])
          clear hrel hdr hc
          go_wp2
          go_ret2
          rw [HN.out]
          exact ⟨rfl, HB.out⟩
      · have hb : ∀ (h : j < s.size), ((s[j]'h).toNat : Int) = (c.toNat : Int) := fun h => by rw [hc]
        have hn : ((c.toNat : Int) == 39) = false := by
          simp
          intro e
          exact h39 (UInt8.toNat_inj.1 (by simpa using Int.ofNat_inj.1 e))
        have HR : Hid (unq s.data.toList = (unq (s.data.toList.drop (j + 1))).map ((l ++ [c]) ++ ·)) := (show unq s.data.toList = (unq (s.data.toList.drop (j + 1))).map ((l ++ [c]) ++ ·) by rw [hrel, unq_cons h39, ← map_cat]; rfl)
        clear hrel hdr hc
        go_wp2_with (first
          | (at_builtin; refine wp_app (by rfl) _ _ (by rfl) w.heap.size u6 l [c] _ (by rfl) (by rfl) HO.out (by rfl) (by simp) (by simp; omega) HS.out ?_; intro g3 cap3 w3 hown3 hbel3 hsz3))
        go_roundw
        case rel => exact ⟨j + 1, l ++ [c], by omega, by simp; omega, by simp, by simpa using hown3, HR.out, HB.out.trans hbel3⟩
        case measure => simp [intOf]; omega
    · have hje : j = s.size := by omega
      subst hje
      have l1 : ¬ ((s.size : Int) < (s.size : Int)) := by omega
      have HN : Hid (unq s.data.toList = some l) := (show unq s.data.toList = some l by rw [hrel, List.drop_of_length_le (by simp)]; simp [unq])
      have hcv := conv_own HO.out
      clear hrel
      go_wp2
      go_ret2
      rw [HN.out]
      exact ⟨rfl, HB.out⟩
end Go.Proofs.YtkooijhdjjdigaaDoor
