/- The reader where it gives up; the number that bytes are. -/
/- The number that bytes are, as the program reads it. -/
/- The reader's text: a blob or a text. -/
/- The reader's value of a type. -/
/- The reader's value of a type: integers; where it gives up. -/
/- The reader's value of a type, where bytes are wanting or too many. -/
/- The reader's value of any type. -/
import Derived.Test.YtfjmoiooonialaaSJ
import Derived.Test.YtfjmoiooonialaaFC
namespace Go.Proofs.Ytfjmoiooonialaa
open Go.ChangeShapes Go.WideShapes Go.ChangeAt Go.RowKit
set_option linter.unusedVariables false

theorem take_no (p : Nat) (s : ByteArray) (n : Nat) (hn : s.size < n) (w : World) (hc : w.cell? ⟨p, 0, none⟩ = some (.string s)) : Calls Try.prog 31 #[.pointer (some ⟨p, 0, none⟩), .int .i64 (n : Int)] w fun e w' => e = .panicked badP ∧ w = w' := by
  have l0 : ¬ (n : Int) ≤ (s.size : Int) := by omega
  go_enter Try.func31, Try.ntmps31
  go_wp2_with (first
    | (go_at_call 28; with_reducible refine Calls.mono (must_no _) ?_; rintro e w2 ⟨rfl, rfl⟩))
  first | exact ⟨rfl, rfl⟩ | simp [bodyPost]
theorem rvar_no (p : Nat) (s : ByteArray) (hs : s.size ≤ 140737488355328) (hn : vrdN s.data.toList = 0) (w : World) (hc : w.cell? ⟨p, 0, none⟩ = some (.string s)) : Calls Try.prog 30 #[.pointer (some ⟨p, 0, none⟩)] w fun e w' => e = .panicked badP ∧ w = w' := by
  have HV := hide (varint_walk s hs)
  have HN := hide hn
  clear hn
  go_enter Try.func30, Try.ntmps30
  go_wp2_with (first
    | (go_at_call 7; with_reducible refine Calls.mono (HV.out _) ?_; rintro e w1 ⟨rfl, rfl⟩; rw [HN.out, if_pos rfl])
    | (go_at_call 28; with_reducible refine Calls.mono (must_no _) ?_; rintro e w2 ⟨rfl, rfl⟩))
  first | exact ⟨rfl, rfl⟩ | simp [bodyPost]

theorem or_low (m : Int) (b : Nat) (hb : b < 256) : bits BinOp.or IntKind.i64 (m * 256) (b : Int) = IntKind.i64.wrap (m * 256 + b) := by
  show IntKind.i64.wrap ((BitVec.ofInt 64 (m * 256) ||| BitVec.ofInt 64 (b : Int)).toNat : Int) = _
  rw [BitVec.toNat_or, BitVec.toNat_ofInt, BitVec.toNat_ofInt]
  obtain ⟨c, hc⟩ : ∃ c : Nat, (m * 256 % ((2 ^ 64 : Nat) : Int)).toNat = 2 ^ 8 * c := ⟨((m * 256 % ((2 ^ 64 : Nat) : Int)).toNat) / 256, by simp only [Nat.reducePow]; omega⟩
  have hb2 : ((b : Int) % ((2 ^ 64 : Nat) : Int)).toNat = b := by simp only [Nat.reducePow]; omega
  rw [hb2, hc, ← Nat.two_pow_add_eq_or_of_lt (by simpa using hb), IntKind.wrap_i64, IntKind.wrap_i64]
  simp only [Nat.reducePow] at hc
  omega

/-- The number that bytes are, the highest first. -/
def sgnB (b : UInt8) : Int := if b.toNat < 128 then (b.toNat : Int) else (b.toNat : Int) - 256
def numB (n : Int) : List UInt8 → Int
  | [] => n
  | b :: r => numB (n * 256 + b.toNat) r
def intB : List UInt8 → Int
  | [] => 0
  | b :: r => numB (sgnB b) r
theorem numB_snoc (n : Int) (l : List UInt8) (b : UInt8) : numB n (l ++ [b]) = numB n l * 256 + b.toNat := by
  induction l generalizing n with
  | nil => rfl
  | cons a r ih => simp only [List.cons_append, numB]; exact ih _
theorem sgnB_range (b : UInt8) : -128 ≤ sgnB b ∧ sgnB b ≤ 127 := by
  have := b.toNat_lt
  unfold sgnB
  split <;> omega
theorem numB_range (n : Int) (P : Int) (l : List UInt8) (h : -P ≤ n ∧ n < P) : -(P * 256 ^ l.length) ≤ numB n l ∧ numB n l < P * 256 ^ l.length := by
  induction l generalizing n P with
  | nil => simpa [numB] using h
  | cons b r ih =>
    have hb := b.toNat_lt
    have := ih (n * 256 + b.toNat) (P * 256) (by omega)
    simp only [numB, List.length_cons, Int.pow_succ]
    rw [Int.mul_comm (256 ^ r.length) 256, ← Int.mul_assoc]
    exact this
end Go.Proofs.Ytfjmoiooonialaa

namespace Go.Proofs.Ytfjmoiooonialaa
open Go.ChangeShapes Go.WideShapes Go.ChangeAt Go.RowKit
set_option linter.unusedVariables false

theorem intB_snoc {l : List UInt8} (h : l ≠ []) (b : UInt8) : intB (l ++ [b]) = intB l * 256 + b.toNat := by
  match l, h with
  | a :: r, _ => exact numB_snoc _ _ _
theorem intB_range {l : List UInt8} (h : l.length ≤ 7) : -36028797018963968 ≤ intB l ∧ intB l < 36028797018963968 := by
  match l, h with
  | [], _ => simp [intB]
  | a :: r, h =>
    have h0 := sgnB_range a
    have := numB_range (sgnB a) 128 r (by omega)
    have hl : r.length ≤ 6 := by simpa using h
    have hp : (256 : Int) ^ r.length ≤ 256 ^ 6 := by
      have := Int.ofNat_le.2 (Nat.pow_le_pow_right (n := 256) (by omega) hl)
      rwa [Int.natCast_pow, Int.natCast_pow] at this
    simp only [intB]
    have e : (256 : Int) ^ 6 = 281474976710656 := by decide
    rw [e] at hp
    omega
theorem i8_all : ∀ q : Fin 256, IntKind.i8.wrap (q.val : Int) = if q.val < 128 then (q.val : Int) else (q.val : Int) - 256 := by decide +kernel
theorem take_succ (t : ByteArray) (k : Nat) (h : k < t.size) : t.data.toList.take (k + 1) = t.data.toList.take k ++ [t[k]'h] := by
  rw [List.take_add_one]
  have : t.data.toList[k]? = some (t[k]'h) := by
    rw [Array.getElem?_toList]
    exact Array.getElem?_eq_getElem _
  rw [this]; rfl

set_option maxHeartbeats 1000000 in
set_option maxRecDepth 10000 in
theorem integer_walk (s : ByteArray) (h1 : 1 ≤ s.size) (h8 : s.size ≤ 8) (w : World) : Calls Try.prog 41 #[.string s] w fun e w' => e = .returned (.int .i64 (intB s.data.toList)) ∧ w = w' := by
  have hl : s.data.toList.length = s.size := by simp
  have l0 : (0 : Int) < (s.size : Int) := by omega
  have l00 : 0 < s.size := by omega
  obtain ⟨q0, hq0⟩ : ∃ q : UInt8, s[0]'l00 = q := ⟨_, rfl⟩
  have hb0 : ∀ (h : 0 < s.size), ((s[0]'h).toNat : Int) = (q0.toNat : Int) := fun h => by rw [hq0]
  have hs0 : IntKind.i8.wrap (q0.toNat : Int) = sgnB q0 := by
    exact i8_all ⟨q0.toNat, q0.toNat_lt⟩
  have HI1 : Hid (intB (s.data.toList.take 1) = sgnB q0) := by
    show _ = _
    rw [show (1 : Nat) = 0 + 1 from rfl, take_succ s 0 l00, hq0]
    rfl
  have HNe : Hid (∀ k, 1 ≤ k → s.data.toList.take k ≠ []) := fun k hk e => by
    have := congrArg List.length e
    rw [List.length_take, hl] at this
    simp only [List.length_nil] at this
    omega
  have HTk : Hid (∀ k, s.size ≤ k → s.data.toList.take k = s.data.toList) := fun k hk => List.take_of_length_le (by omega)
  have HLt : Hid (∀ k, k < s.size → (s.data.toList.take k).length ≤ 7) := fun k hk => by rw [List.length_take]; omega
  have hsr := sgnB_range q0
  clear hl
  generalize sgnB q0 = g0 at hs0 HI1 hsr
  clear hq0
  go_enter Try.func41, Try.ntmps41
  go_wp2
  go_loopw [2, 3] (fun nv iv wr => ∃ k : Nat, 1 ≤ k ∧ k ≤ s.size ∧ iv = .int .i64 (k : Int) ∧ nv = .int .i64 (intB (s.data.toList.take k)) ∧ w = wr) (fun _ iv _ => s.size - (intOf iv).toNat)
  case atStart => exact ⟨1, Nat.le_refl _, h1, rfl, by rw [HI1.out], rfl⟩
  case round =>
    obtain ⟨k, hk1, hk, rfl, rfl, rfl⟩ := hrel
    obtain ⟨m, hm⟩ : ∃ m, intB (s.data.toList.take k) = m := ⟨_, rfl⟩
    by_cases hlt : k < s.size
    · have l1 : (k : Int) < (s.size : Int) := by omega
      have l2 : (0 : Int) ≤ (k : Int) := by omega
      have hw1 : IntKind.i64.wrap ((k : Int) + 1) = (k : Int) + 1 := by rw [IntKind.wrap_i64]; omega
      have hr := intB_range (l := s.data.toList.take k) (HLt.out k hlt)
      rw [hm] at hr
      obtain ⟨q, hq⟩ : ∃ q : UInt8, s[k]'hlt = q := ⟨_, rfl⟩
      have hb : ∀ (h : k < s.size), ((s[k]'h).toNat : Int) = (q.toNat : Int) := fun h => by rw [hq]
      have hql := q.toNat_lt
      have wr1 : IntKind.i64.wrap (m * 256) = m * 256 := by rw [IntKind.wrap_i64]; omega
      have hor : bits BinOp.or IntKind.i64 (m * 256) (q.toNat : Int) = m * 256 + (q.toNat : Int) := by rw [or_low m q.toNat hql, IntKind.wrap_i64]; omega
      have HN : Hid (intB (s.data.toList.take (k + 1)) = m * 256 + (q.toNat : Int)) := by
        show _ = _
        rw [take_succ s k hlt, intB_snoc (HNe.out k hk1), hm, hq]
      rw [hm]
      clear hm hq hr hb0 hs0 HI1
      go_wp2
      refine ⟨⟨k + 1, by omega, hlt, rfl, by rw [HN.out], by first | rfl | trivial⟩, ?_⟩
      simp only [intOf]; omega
    · have l1 : ¬ (k : Int) < (s.size : Int) := by omega
      have HE : Hid (intB s.data.toList = m) := by
        show _ = _
        rw [← hm, HTk.out k (by omega)]
      rw [hm]
      clear hm
      go_wp2
      go_ret
      exact ⟨by rw [HE.out]; rfl, by first | rfl | trivial⟩
end Go.Proofs.Ytfjmoiooonialaa

namespace Go.Proofs.Ytfjmoiooonialaa
open Go.ChangeShapes Go.WideShapes Go.ChangeAt Go.RowKit
set_option linter.unusedVariables false

theorem and_one (u : Nat) (h : u < 18446744073709551616) : bits BinOp.and IntKind.u64 (u : Int) 1 = ((u % 2 : Nat) : Int) := by
  show IntKind.u64.wrap ((BitVec.ofInt 64 (u : Int) &&& BitVec.ofInt 64 1).toNat : Int) = _
  have e : BitVec.ofInt 64 1 = 1#64 := by decide
  rw [e, BitVec.toNat_and, BitVec.toNat_ofInt, IntKind.wrap_u64]
  have h1 : ((u : Int) % ((2 ^ 64 : Nat) : Int)).toNat = u := by simp only [Nat.reducePow]; omega
  have h2 : (1#64).toNat = 1 := by decide
  rw [h1, h2, Nat.and_one_is_mod]
  omega
/-- The kind that a text's type tells. -/
def kindT (u : Nat) : Int := if u % 2 = 1 then 2 else 3

set_option maxHeartbeats 1000000 in
set_option maxRecDepth 10000 in
theorem readText_no (u p : Nat) (hu : u < 18446744073709551616) (s : ByteArray) (hs : s.size ≤ 140737488355328) (hbad : 400 < u / 2 ∨ s.size < u / 2) (w : World) (hc : w.cell? ⟨p, 0, none⟩ = some (.string s)) : Calls Try.prog 42 #[.int .u64 (u : Int), takeF p] w fun e w' => e = .panicked badP ∧ Below w.heap.size w w' := by
  have x1 : (u : Int) / 2 = ((u / 2 : Nat) : Int) := by omega
  obtain ⟨m, hm⟩ : ∃ m, u / 2 = m := ⟨_, rfl⟩
  rw [hm] at x1 hbad
  have HC : Hid ((w.alloc nilv).cell? ⟨p, 0, none⟩ = some (.string s)) := cell_alloc hc _
  have HN := hide (new_below w nilv rfl)
  have HT := hide (take_no p s m)
  by_cases h4 : m ≤ 400
  · have c4 : (m : Int) ≤ 400 := by omega
    have x2 : IntKind.i64.wrap (m : Int) = (m : Int) := by rw [IntKind.wrap_i64]; omega
    have HTn := hide (HT.out (by omega) _ HC.out)
    clear hu hbad hm hc hs
    go_enter Try.func42, Try.ntmps42
    go_wp2_with (first
      | (go_at_call 28; with_reducible refine Calls.mono (must_yes _) ?_; rintro e w5 ⟨rfl, rfl⟩)
      | (go_at_call 31; with_reducible refine Calls.mono HTn.out ?_; rintro e w1 ⟨rfl, rfl⟩))
    first | exact ⟨rfl, HN.out⟩ | (simp [bodyPost]; exact HN.out)
  · have c4 : ¬ (m : Int) ≤ 400 := by omega
    clear hu hbad hm hc hs
    go_enter Try.func42, Try.ntmps42
    go_wp2_with (first
      | (go_at_call 28; with_reducible refine Calls.mono (must_no _) ?_; rintro e w5 ⟨rfl, rfl⟩))
    first | exact ⟨rfl, HN.out⟩ | (simp [bodyPost]; exact HN.out)

set_option maxHeartbeats 1000000 in
set_option maxRecDepth 10000 in
theorem readText_ok (u p : Nat) (hu : u < 18446744073709551616) (s : ByteArray) (hs : s.size ≤ 140737488355328) (h4 : u / 2 ≤ 400) (hsz : u / 2 ≤ s.size) (w : World) (hp : p < w.heap.size) (hc : w.cell? ⟨p, 0, none⟩ = some (.string s)) (hf : w.frozen? ⟨p, 0, none⟩ = false) :
    Calls Try.prog 42 #[.int .u64 (u : Int), takeF p] w fun e w' => e = .returned (val (kindT u) 0 (s.extract 0 (u / 2))) ∧ Below w.heap.size (w.setCell ⟨p, 0, none⟩ (.string (s.extract (u / 2) s.size))) w' := by
  have x1 : (u : Int) / 2 = ((u / 2 : Nat) : Int) := by omega
  have x5 := and_one u hu
  have HK : Hid (kindT u = if u % 2 = 1 then 2 else 3) := by show _ = _; rfl
  obtain ⟨m, hm⟩ : ∃ m, u / 2 = m := ⟨_, rfl⟩
  rw [hm] at x1 h4 hsz
  rw [hm]
  have c4 : (m : Int) ≤ 400 := by omega
  have x2 : IntKind.i64.wrap (m : Int) = (m : Int) := by rw [IntKind.wrap_i64]; omega
  have HTn := hide (take_walk p s m hsz hs (w.alloc nilv) (cell_alloc hc _) (frozen_alloc1 hp hf _))
  rw [World.setCell_alloc_past _ _ _ _ hp] at HTn
  obtain ⟨A, hA⟩ : ∃ A, s.extract 0 m = A := ⟨_, rfl⟩
  obtain ⟨R, hR⟩ : ∃ R, s.extract m s.size = R := ⟨_, rfl⟩
  obtain ⟨V, hV⟩ : ∃ V, w.setCell ⟨p, 0, none⟩ (.string R) = V := ⟨_, rfl⟩
  rw [hA, hR, hV] at HTn
  rw [hA, hR, hV]
  have hVs : V.heap.size = w.heap.size := by rw [← hV]; simp
  clear hA hR hV hc hf hs hsz hu
  generalize kindT u = kk at HK ⊢
  by_cases h2 : u % 2 = 1
  · rw [if_pos h2] at HK
    rw [h2] at x5
    obtain rfl := HK.out
    clear HK h2 hm
    go_enter Try.func42, Try.ntmps42
    go_wp2_with (first
      | (go_at_call 28; with_reducible refine Calls.mono (must_yes _) ?_; rintro e w5 ⟨rfl, rfl⟩)
      | (go_at_call 31; with_reducible refine Calls.mono HTn.out ?_; rintro e w1 ⟨rfl, rfl⟩))
    rw [← hVs]
    go_returns
    exact ⟨rfl, by first | (rw [← hVs]; go_grown) | go_grown⟩
  · rw [if_neg h2] at HK
    rw [show u % 2 = 0 by omega] at x5
    obtain rfl := HK.out
    clear HK h2 hm
    go_enter Try.func42, Try.ntmps42
    go_wp2_with (first
      | (go_at_call 28; with_reducible refine Calls.mono (must_yes _) ?_; rintro e w5 ⟨rfl, rfl⟩)
      | (go_at_call 31; with_reducible refine Calls.mono HTn.out ?_; rintro e w1 ⟨rfl, rfl⟩))
    rw [← hVs]
    go_returns
    exact ⟨rfl, by first | (rw [← hVs]; go_grown) | go_grown⟩
end Go.Proofs.Ytfjmoiooonialaa

namespace Go.Proofs.Ytfjmoiooonialaa
open Go.ChangeShapes Go.WideShapes Go.ChangeAt Go.RowKit
set_option linter.unusedVariables false

/-- What has been read is behind the place; all else lies as it lay. -/
structure Rd (p : Nat) (w w' : World) (rest : ByteArray) : Prop where
  cell : w'.cell? ⟨p, 0, none⟩ = some (.string rest)
  free : w'.frozen? ⟨p, 0, none⟩ = false
  keep : ∀ k, k < w.heap.size → k ≠ p → w'.heap[k]? = w.heap[k]?
  below : Below p w w'
theorem frozen_block {w w' : World} {p : Nat} (h : w'.heap[p]? = w.heap[p]?) (hf : w.frozen? ⟨p, 0, none⟩ = false) : w'.frozen? ⟨p, 0, none⟩ = false := by
  unfold World.frozen? at hf ⊢
  simp only [h]
  exact hf
theorem Rd.of_below {p : Nat} {w w' : World} {s : ByteArray} (hp : p < w.heap.size) (hc : w.cell? ⟨p, 0, none⟩ = some (.string s)) (hf : w.frozen? ⟨p, 0, none⟩ = false) (hb : Below w.heap.size w w') : Rd p w w' s where
  cell := cell_later hb hc
  free := frozen_block (hb.block p hp) hf
  keep := fun k hk _ => hb.block k hk
  below := hb.mono (Nat.le_of_lt hp)
theorem Rd.of_set {p : Nat} {w w' : World} {s r : ByteArray} (hp : p < w.heap.size) (hc : w.cell? ⟨p, 0, none⟩ = some (.string s)) (hf : w.frozen? ⟨p, 0, none⟩ = false) (hb : Below w.heap.size (w.setCell ⟨p, 0, none⟩ (.string r)) w') : Rd p w w' r where
  cell := by
    have h : (w.setCell ⟨p, 0, none⟩ (.string r)).cell? ⟨p, 0, none⟩ = some (.string r) := World.cell?_setCell_same _ _ _ hc
    refine (World.cell?_of_block ?_).trans h
    exact hb.block p (by simpa using hp)
  free := by
    refine frozen_block (w := w.setCell ⟨p, 0, none⟩ (.string r)) (hb.block p hp) ?_
    simp [hf]
  keep := fun k hk hne => by
    rw [hb.block k hk]
    exact Below.heap_setCell _ _ _ _ (by show k ≠ p; exact hne)
  below := ((Below.refl p w).setCell (Nat.le_refl _) _).trans (hb.mono (Nat.le_of_lt hp))
theorem set3 {w : World} {b : Nat} {x y z : Value} {T : TypeId} (h : w.heap[b]? = some (.cells #[x, y, z] T (0, 0))) (x' y' z' : Value) : (((w.setCell ⟨b, 0, none⟩ x').setCell ⟨b, 1, none⟩ y').setCell ⟨b, 2, none⟩ z').heap[b]? = some (.cells #[x', y', z'] T (0, 0)) := by
  have h1 := set_block h 0 x'
  have h2 := set_block h1 1 y'
  have h3 := set_block h2 2 z'
  exact h3

theorem infoV : (Try.prog.info? 46).map (fun i => i.size) = some 3 := by kernel_rfl
/-- A value comes back out of a result's own block, whatever its place. -/
theorem ret_valg {w1 : World} {g j : Nat} {x y z : Value} {fn : Func} (hres : fn.results = #[.cell j 46]) {tmps : Array Value} (ht : tmps.getD j undef = .pointer (some ⟨g, 0, none⟩))
    (hb : w1.heap[g]? = some (.cells #[x, y, z] 46 (0, 0))) {a b c : Value} {R : Ending → World → Prop}
    (h : R (.returned (.agg #[a, b, c])) (((w1.setCell ⟨g, 0, none⟩ a).setCell ⟨g, 1, none⟩ b).setCell ⟨g, 2, none⟩ c)) :
    bodyPost Try.prog fn R Exit.ret { tmps := tmps, defers := [] } (((w1.setCell ⟨g, 0, none⟩ a).setCell ⟨g, 1, none⟩ b).setCell ⟨g, 2, none⟩ c) := by
  have hs := set_block (set_block (set_block hb 0 a) 1 b) 2 c
  exact bodyPost_ret (v := .agg #[a, b, c]) (results_cell_row hres _ _ g 46 _ (0, 0) _ ht (by simpa using hs) Try.underlying46 rfl infoV) rfl h
theorem below_sets {B g : Nat} {w w2 w4 : World} {a b c a' b' c' : Value} (hg : B ≤ g) (h : Below B w w2) (h4 : Below (((w2.setCell ⟨g, 0, none⟩ a).setCell ⟨g, 1, none⟩ b).setCell ⟨g, 2, none⟩ c).heap.size (((w2.setCell ⟨g, 0, none⟩ a).setCell ⟨g, 1, none⟩ b).setCell ⟨g, 2, none⟩ c) w4) (hB : B ≤ w2.heap.size) :
    Below B w (((w4.setCell ⟨g, 0, none⟩ a').setCell ⟨g, 1, none⟩ b').setCell ⟨g, 2, none⟩ c') :=
  ((((((h.setCell hg _).setCell hg _).setCell hg _).trans (h4.mono (by simpa using hB))).setCell hg _).setCell hg _).setCell hg _
theorem readValue_null (p : Nat) (w : World) : Calls Try.prog 38 #[.int .u64 0, takeF p] w fun e w' => e = .returned (val 0 0 ⟨#[]⟩) ∧ Below w.heap.size w w' := by
  go_enter Try.func38, Try.ntmps38
  go_wp2
  go_returns
  exact ⟨rfl, by go_grown⟩
set_option maxHeartbeats 1000000 in
set_option maxRecDepth 10000 in
theorem readValue_eleven (p : Nat) (w : World) : Calls Try.prog 38 #[.int .u64 11, takeF p] w fun e w' => e = .panicked badP ∧ Below w.heap.size w w' := by
  have HN := hide (new_below w nilv rfl)
  have HTy : Hid (∀ V, Calls Try.prog 23 #[.agg #[.int .i64 0, .int .i64 0, .string ⟨#[]⟩]] V fun e w' => e = .returned (.int .u64 0) ∧ Below V.heap.size V w') := fun V => type_walk 0 0 ⟨#[]⟩ (by decide) (by unfold InI; omega) V
  go_enter Try.func38, Try.ntmps38
  go_wp2_with (first
    | (go_at_call 23; with_reducible refine Calls.mono (HTy.out _) ?_; rintro e w4 ⟨rfl, hb4⟩; have X4 := hide (below_trans HN.out hb4); clear hb4)
    | (go_at_call 28; with_reducible refine Calls.mono (must_no _) ?_; rintro e w5 ⟨rfl, rfl⟩))
  first | exact ⟨rfl, X4.out⟩ | (simp [bodyPost]; exact X4.out)

set_option maxHeartbeats 2000000 in
set_option maxRecDepth 10000 in
theorem readValue_text (t p : Nat) (ht : t < 18446744073709551616) (h12 : 12 ≤ t) (s : ByteArray) (hs : s.size ≤ 140737488355328) (h4 : (t - 12) / 2 ≤ 400) (hsz : (t - 12) / 2 ≤ s.size) (w : World) (hp : p < w.heap.size) (hc : w.cell? ⟨p, 0, none⟩ = some (.string s)) (hf : w.frozen? ⟨p, 0, none⟩ = false) :
    Calls Try.prog 38 #[.int .u64 (t : Int), takeF p] w fun e w' => e = .returned (val (kindT (t - 12)) 0 (s.extract 0 ((t - 12) / 2))) ∧ Rd p w w' (s.extract ((t - 12) / 2) s.size) := by
  have n0 : ¬ (t : Int) = 0 := by omega
  have n1 : ¬ (t : Int) ≤ 8 := by omega
  have n2 : ¬ (t : Int) = 9 := by omega
  have n3 : ¬ (t : Int) = 10 := by omega
  have n4 : (12 : Int) ≤ (t : Int) := by omega
  have g0 : ((t : Int) == 0) = false := by simp; omega
  have g2 : ((t : Int) == 9) = false := by simp; omega
  have g3 : ((t : Int) == 10) = false := by simp; omega
  have x1 : IntKind.u64.wrap ((t : Int) - 12) = ((t - 12 : Nat) : Int) := by rw [IntKind.wrap_u64]; omega
  obtain ⟨R, hR⟩ : ∃ R, s.extract ((t - 12) / 2) s.size = R := ⟨_, rfl⟩
  obtain ⟨A, hA⟩ : ∃ A, s.extract 0 ((t - 12) / 2) = A := ⟨_, rfl⟩
  have hAs : A.size = (t - 12) / 2 := by rw [← hA, ByteArray.size_extract]; omega
  obtain ⟨kk, hkk⟩ : ∃ k, kindT (t - 12) = k := ⟨_, rfl⟩
  have hmay : mayB kk 0 A = true := by
    rw [← hkk]
    unfold kindT
    split
    · rw [may2]; simp; omega
    · rw [may3]; simp; omega
  have htyp : typN kk 0 A = t := by
    rw [← hkk]
    unfold kindT
    split
    · unfold typN; rw [if_neg (by decide), if_pos rfl]; omega
    · unfold typN; rw [if_neg (by decide), if_neg (by decide), if_pos rfl]; omega
  have HTy : Hid (∀ V, Calls Try.prog 23 #[.agg #[.int .i64 kk, .int .i64 0, .string A]] V fun e w' => e = .returned (.int .u64 (t : Int)) ∧ Below V.heap.size V w') := fun V => by
    have := type_walk kk 0 A hmay (by unfold InI; omega) V
    rwa [htyp] at this
  have HRT := hide (readText_ok (t - 12) p (by omega) s hs h4 hsz (w.alloc nilv) (by simp; omega) (cell_alloc hc _) (frozen_alloc1 hp hf _))
  rw [hR, hA, hkk] at HRT
  rw [hR, hA, hkk]
  have HBk : Hid (∀ w2, Below (w.alloc nilv).heap.size ((w.alloc nilv).setCell ⟨p, 0, none⟩ (.string R)) w2 → w2.heap[w.heap.size]? = some nilv ∧ Below w.heap.size (w.setCell ⟨p, 0, none⟩ (.string R)) w2) := fun w2 hb => by
    refine ⟨?_, ?_⟩
    · rw [hb.block _ (by simp), Below.heap_setCell _ _ _ _ (by simp; omega)]
      exact blk_new w nilv
    · rw [World.setCell_alloc_past _ _ _ _ hp] at hb
      exact (((Below.refl w.heap.size _).alloc (by simp) nilv)).trans (hb.mono (by simp))
  have HFin : Hid (∀ w', Below w.heap.size (w.setCell ⟨p, 0, none⟩ (.string R)) w' → Rd p w w' R) := fun w' hb => Rd.of_set hp hc hf hb
  clear hR hA hAs hkk hmay htyp hs h4 hsz hc hf
  go_enter Try.func38, Try.ntmps38
  go_wp2_with (first
    | (go_at_call 42; with_reducible refine Calls.mono HRT.out ?_; rintro e w2 ⟨rfl, hb2⟩; have K2 := hide (HBk.out _ hb2).1; have B2 := hide (HBk.out _ hb2).2; obtain ⟨d0, d1, d2, f0, f1, f2⟩ := res_facts K2.out; clear hb2)
    | (go_at_call 23; with_reducible refine Calls.mono (HTy.out _) ?_; rintro e w4 ⟨rfl, hb4⟩; have X4 := hide hb4; have K4 := hide ((hb4.block w.heap.size (by have := (Array.getElem?_eq_some_iff.1 K2.out).1; simpa using this)).trans (set3 K2.out _ _ _)); obtain ⟨q0, q1, q2, r0, r1, r2⟩ := res_facts K4.out; clear hb4)
    | (go_at_call 28; with_reducible refine Calls.mono (must_yes _) ?_; rintro e w5 ⟨rfl, rfl⟩))
  refine ret_valg rfl rfl K4.out ⟨rfl, HFin.out _ (below_sets (Nat.le_refl _) B2.out X4.out ?_)⟩
  have := B2.out.size
  simpa using this
end Go.Proofs.Ytfjmoiooonialaa

namespace Go.Proofs.Ytfjmoiooonialaa
open Go.ChangeShapes Go.WideShapes Go.ChangeAt Go.RowKit
set_option linter.unusedVariables false

theorem intB_in {l : List UInt8} (h : l.length ≤ 8) : InI (intB l) := by
  unfold InI
  match l, h with
  | [], _ => simp [intB]
  | a :: r, h =>
    have h0 := sgnB_range a
    have := numB_range (sgnB a) 128 r (by omega)
    have hl : r.length ≤ 7 := by simpa using h
    have hp : (256 : Int) ^ r.length ≤ 256 ^ 7 := by
      have := Int.ofNat_le.2 (Nat.pow_le_pow_right (n := 256) (by omega) hl)
      rwa [Int.natCast_pow, Int.natCast_pow] at this
    simp only [intB]
    have e : (256 : Int) ^ 7 = 72057594037927936 := by decide
    rw [e] at hp
    omega
theorem ext_take (s : ByteArray) (t : Nat) : (s.extract 0 t).data.toList = s.data.toList.take t := by
  rw [ByteArray.data_extract, Array.toList_extract]
  simp [List.extract]

set_option maxHeartbeats 2000000 in
set_option maxRecDepth 10000 in
theorem readValue_small (t p : Nat) (ht : t = 9 ∨ t = 10) (w : World) : Calls Try.prog 38 #[.int .u64 (t : Int), takeF p] w fun e w' => e = .returned (val 1 ((t : Int) - 9) ⟨#[]⟩) ∧ Below w.heap.size w w' := by
  have HK : Hid (∀ w3, Below (w.alloc nilv).heap.size (w.alloc nilv) w3 → w3.heap[w.heap.size]? = some nilv ∧ Below w.heap.size w w3) := fun w3 hb => ⟨by rw [hb.block _ (by simp)]; exact blk_new w nilv, below_trans (new_below w nilv rfl) hb⟩
  rcases ht with rfl | rfl
  · have HTy : Hid (∀ V, Calls Try.prog 23 #[.agg #[.int .i64 1, .int .i64 0, .string ⟨#[]⟩]] V fun e w' => e = .returned (.int .u64 9) ∧ Below V.heap.size V w') := fun V => type_walk 1 0 ⟨#[]⟩ (by decide) (by unfold InI; omega) V
    go_enter Try.func38, Try.ntmps38
    go_wp2_with (first
      | (go_at_call 39; with_reducible refine Calls.mono (vint_walk _ _) ?_; rintro e w3 ⟨rfl, hb3⟩; have K2 := hide (HK.out _ hb3).1; have B2 := hide (HK.out _ hb3).2; obtain ⟨d0, d1, d2, f0, f1, f2⟩ := res_facts K2.out; clear hb3)
      | (go_at_call 23; with_reducible refine Calls.mono (HTy.out _) ?_; rintro e w4 ⟨rfl, hb4⟩; have X4 := hide hb4; have K4 := hide ((hb4.block w.heap.size (by have := (Array.getElem?_eq_some_iff.1 K2.out).1; simpa using this)).trans (set3 K2.out _ _ _)); obtain ⟨q0, q1, q2, r0, r1, r2⟩ := res_facts K4.out; clear hb4)
      | (go_at_call 28; with_reducible refine Calls.mono (must_yes _) ?_; rintro e w5 ⟨rfl, rfl⟩))
    exact ret_valg rfl rfl K4.out ⟨rfl, below_sets (Nat.le_refl _) B2.out X4.out B2.out.size⟩
  · have HTy : Hid (∀ V, Calls Try.prog 23 #[.agg #[.int .i64 1, .int .i64 1, .string ⟨#[]⟩]] V fun e w' => e = .returned (.int .u64 10) ∧ Below V.heap.size V w') := fun V => type_walk 1 1 ⟨#[]⟩ (by decide) (by unfold InI; omega) V
    go_enter Try.func38, Try.ntmps38
    go_wp2_with (first
      | (go_at_call 39; with_reducible refine Calls.mono (vint_walk _ _) ?_; rintro e w3 ⟨rfl, hb3⟩; have K2 := hide (HK.out _ hb3).1; have B2 := hide (HK.out _ hb3).2; obtain ⟨d0, d1, d2, f0, f1, f2⟩ := res_facts K2.out; clear hb3)
      | (go_at_call 23; with_reducible refine Calls.mono (HTy.out _) ?_; rintro e w4 ⟨rfl, hb4⟩; have X4 := hide hb4; have K4 := hide ((hb4.block w.heap.size (by have := (Array.getElem?_eq_some_iff.1 K2.out).1; simpa using this)).trans (set3 K2.out _ _ _)); obtain ⟨q0, q1, q2, r0, r1, r2⟩ := res_facts K4.out; clear hb4)
      | (go_at_call 28; with_reducible refine Calls.mono (must_yes _) ?_; rintro e w5 ⟨rfl, rfl⟩))
    exact ret_valg rfl rfl K4.out ⟨rfl, below_sets (Nat.le_refl _) B2.out X4.out B2.out.size⟩

set_option maxHeartbeats 2000000 in
set_option maxRecDepth 10000 in
theorem readValue_int (t p : Nat) (h1 : 1 ≤ t) (h8 : t ≤ 8) (s : ByteArray) (hs : s.size ≤ 140737488355328) (hsz : t ≤ s.size) (n : Int) (hn : intB (s.data.toList.take t) = n) (w : World) (hp : p < w.heap.size) (hc : w.cell? ⟨p, 0, none⟩ = some (.string s)) (hf : w.frozen? ⟨p, 0, none⟩ = false) :
    (typN 1 n ⟨#[]⟩ = t → Calls Try.prog 38 #[.int .u64 (t : Int), takeF p] w fun e w' => e = .returned (val 1 n ⟨#[]⟩) ∧ Rd p w w' (s.extract t s.size)) ∧
    (typN 1 n ⟨#[]⟩ ≠ t → Calls Try.prog 38 #[.int .u64 (t : Int), takeF p] w fun e w' => e = .panicked badP ∧ Below p w w') := by
  have n0 : ¬ (t : Int) = 0 := by omega
  have g0 : ((t : Int) == 0) = false := by simp; omega
  have n1 : (t : Int) ≤ 8 := by omega
  have x1 : IntKind.i64.wrap (t : Int) = (t : Int) := by rw [IntKind.wrap_i64]; omega
  obtain ⟨R, hR⟩ : ∃ R, s.extract t s.size = R := ⟨_, rfl⟩
  obtain ⟨A, hA⟩ : ∃ A, s.extract 0 t = A := ⟨_, rfl⟩
  have hAs : A.size = t := by rw [← hA, ByteArray.size_extract]; omega
  have hAn : intB A.data.toList = n := by rw [← hA, ext_take, hn]
  have hni : InI n := by rw [← hAn]; exact intB_in (by have : A.data.toList.length = A.size := (by simp); omega)
  have HTk := hide (take_walk p s t hsz hs (w.alloc nilv) (cell_alloc hc _) (frozen_alloc1 hp hf _))
  rw [hA, hR] at HTk
  rw [hR]
  have HIn : Hid (∀ V, Calls Try.prog 41 #[.string A] V fun e w' => e = .returned (.int .i64 n) ∧ V = w') := fun V => by
    have := integer_walk A (by omega) (by omega) V
    rwa [hAn] at this
  have HTy := hide (type_walk 1 n ⟨#[]⟩ (by simp [may1]) hni)
  have HP := hide hp
  have HFin : Hid (∀ w', Below w.heap.size (w.setCell ⟨p, 0, none⟩ (.string R)) w' → Rd p w w' R) := fun w' hb => Rd.of_set hp hc hf hb
  have HBk : Hid (∀ w2, Below ((w.alloc nilv).setCell ⟨p, 0, none⟩ (.string R)).heap.size ((w.alloc nilv).setCell ⟨p, 0, none⟩ (.string R)) w2 → w2.heap[w.heap.size]? = some nilv ∧ Below w.heap.size (w.setCell ⟨p, 0, none⟩ (.string R)) w2) := fun w2 hb => by
    refine ⟨behind hp hb, ?_⟩
    rw [World.setCell_alloc_past _ _ _ _ hp] at hb
    exact (((Below.refl w.heap.size _).alloc (by simp) nilv)).trans (hb.mono (by simp))
  have HBk2 : Hid (∀ w2, Below ((w.setCell ⟨p, 0, none⟩ (.string R)).alloc nilv).heap.size ((w.setCell ⟨p, 0, none⟩ (.string R)).alloc nilv) w2 → w2.heap[w.heap.size]? = some nilv ∧ Below w.heap.size (w.setCell ⟨p, 0, none⟩ (.string R)) w2) := fun w2 hb => HBk.out w2 (by rw [World.setCell_alloc_past _ _ _ _ hp]; exact hb)
  clear hR hA hAs hAn hni hs hsz hc hf hn
  generalize typN 1 n ⟨#[]⟩ = T at HTy ⊢
  constructor
  · rintro rfl
    go_enter Try.func38, Try.ntmps38
    go_wp2_with (first
      | (go_at_call 31; with_reducible refine Calls.mono HTk.out ?_; rintro e w1 ⟨rfl, rfl⟩)
      | (go_at_call 41; with_reducible refine Calls.mono (HIn.out _) ?_; rintro e w2 ⟨rfl, rfl⟩)
      | (go_at_call 39; with_reducible refine Calls.mono (vint_walk _ _) ?_; rintro e w3 ⟨rfl, hb3⟩; (first | have KB := HBk.out _ hb3 | have KB := HBk2.out _ hb3); have K2 := hide KB.1; have B2 := hide KB.2; clear KB; obtain ⟨d0, d1, d2, f0, f1, f2⟩ := res_facts K2.out; clear hb3)
      | (go_at_call 23; with_reducible refine Calls.mono (HTy.out _) ?_; rintro e w4 ⟨rfl, hb4⟩; have X4 := hide hb4; have K4 := hide ((hb4.block w.heap.size (by have := (Array.getElem?_eq_some_iff.1 K2.out).1; simpa using this)).trans (set3 K2.out _ _ _)); obtain ⟨q0, q1, q2, r0, r1, r2⟩ := res_facts K4.out; clear hb4)
      | (go_at_call 28; with_reducible refine Calls.mono (must_yes _) ?_; rintro e w5 ⟨rfl, rfl⟩))
    refine ret_valg rfl rfl K4.out ⟨rfl, HFin.out _ (below_sets (Nat.le_refl _) B2.out X4.out ?_)⟩
    have := B2.out.size
    simpa using this
  · intro hne
    have hne' : ((T : Int) == (t : Int)) = false := by simp; omega
    go_enter Try.func38, Try.ntmps38
    go_wp2_with (first
      | (go_at_call 31; with_reducible refine Calls.mono HTk.out ?_; rintro e w1 ⟨rfl, rfl⟩)
      | (go_at_call 41; with_reducible refine Calls.mono (HIn.out _) ?_; rintro e w2 ⟨rfl, rfl⟩)
      | (go_at_call 39; with_reducible refine Calls.mono (vint_walk _ _) ?_; rintro e w3 ⟨rfl, hb3⟩; (first | have KB := HBk.out _ hb3 | have KB := HBk2.out _ hb3); have K2 := hide KB.1; have B2 := hide KB.2; clear KB; obtain ⟨d0, d1, d2, f0, f1, f2⟩ := res_facts K2.out; clear hb3)
      | (go_at_call 23; with_reducible refine Calls.mono (HTy.out _) ?_; rintro e w4 ⟨rfl, hb4⟩; have X4 := hide hb4; clear hb4)
      | (go_at_call 28; with_reducible refine Calls.mono (must_no _) ?_; rintro e w5 ⟨rfl, rfl⟩))
    have hB : Below p w w4 := by
      have hle := Nat.le_of_lt HP.out
      have b2 : Below p w w3 := ((Below.refl p w).setCell (Nat.le_refl _) _).trans (B2.out.mono hle)
      exact (((b2.setCell hle _).setCell hle _).setCell hle _).trans (X4.out.mono (by have := b2.size; simp; omega))
    first | exact ⟨rfl, hB⟩ | (simp [bodyPost]; exact hB)
end Go.Proofs.Ytfjmoiooonialaa

namespace Go.Proofs.Ytfjmoiooonialaa
open Go.ChangeShapes Go.WideShapes Go.ChangeAt Go.RowKit
set_option linter.unusedVariables false

set_option maxHeartbeats 2000000 in
set_option maxRecDepth 10000 in
theorem readValue_short (t p : Nat) (h1 : 1 ≤ t) (h8 : t ≤ 8) (s : ByteArray) (hsz : s.size < t) (w : World) (hc : w.cell? ⟨p, 0, none⟩ = some (.string s)) :
    Calls Try.prog 38 #[.int .u64 (t : Int), takeF p] w fun e w' => e = .panicked badP ∧ Below w.heap.size w w' := by
  have n0 : ¬ (t : Int) = 0 := by omega
  have g0 : ((t : Int) == 0) = false := by simp; omega
  have n1 : (t : Int) ≤ 8 := by omega
  have x1 : IntKind.i64.wrap (t : Int) = (t : Int) := by rw [IntKind.wrap_i64]; omega
  have HTk := hide (take_no p s t hsz (w.alloc nilv) (cell_alloc hc _))
  have HN := hide (new_below w nilv rfl)
  clear hc hsz
  go_enter Try.func38, Try.ntmps38
  go_wp2_with (first
    | (go_at_call 31; with_reducible refine Calls.mono HTk.out ?_; rintro e w1 ⟨rfl, rfl⟩))
  first | exact ⟨rfl, HN.out⟩ | (simp [bodyPost]; exact HN.out)
set_option maxHeartbeats 2000000 in
set_option maxRecDepth 10000 in
theorem readValue_textno (t p : Nat) (ht : t < 18446744073709551616) (h12 : 12 ≤ t) (s : ByteArray) (hs : s.size ≤ 140737488355328) (hbad : 400 < (t - 12) / 2 ∨ s.size < (t - 12) / 2) (w : World) (hc : w.cell? ⟨p, 0, none⟩ = some (.string s)) :
    Calls Try.prog 38 #[.int .u64 (t : Int), takeF p] w fun e w' => e = .panicked badP ∧ Below w.heap.size w w' := by
  have n0 : ¬ (t : Int) = 0 := by omega
  have n1 : ¬ (t : Int) ≤ 8 := by omega
  have n4 : (12 : Int) ≤ (t : Int) := by omega
  have g0 : ((t : Int) == 0) = false := by simp; omega
  have g2 : ((t : Int) == 9) = false := by simp; omega
  have g3 : ((t : Int) == 10) = false := by simp; omega
  have x1 : IntKind.u64.wrap ((t : Int) - 12) = ((t - 12 : Nat) : Int) := by rw [IntKind.wrap_u64]; omega
  have HRT := hide (readText_no (t - 12) p (by omega) s hs hbad (w.alloc nilv) (cell_alloc hc _))
  have HN := hide (new_below w nilv rfl)
  clear hc hs hbad
  go_enter Try.func38, Try.ntmps38
  go_wp2_with (first
    | (go_at_call 42; with_reducible refine Calls.mono HRT.out ?_; rintro e w2 ⟨rfl, hb2⟩; have HX := hide (below_trans HN.out hb2); clear hb2))
  first | exact ⟨rfl, HX.out⟩ | (simp [bodyPost]; exact HX.out)
end Go.Proofs.Ytfjmoiooonialaa

namespace Go.Proofs.Ytfjmoiooonialaa
open Go.ChangeShapes Go.WideShapes Go.ChangeAt Go.RowKit
set_option linter.unusedVariables false

/-- The value of a type with which bytes begin, and how many it has; none: there is none. -/
def rdV (t : Nat) (s : ByteArray) : Option (Int × Int × ByteArray × Nat) :=
  if t = 0 then some (0, 0, ⟨#[]⟩, 0)
  else if t ≤ 8 then (if s.size < t then none else if typN 1 (intB (s.data.toList.take t)) ⟨#[]⟩ = t then some (1, intB (s.data.toList.take t), ⟨#[]⟩, t) else none)
  else if t = 9 ∨ t = 10 then some (1, (t : Int) - 9, ⟨#[]⟩, 0)
  else if t = 11 then none
  else if 400 < (t - 12) / 2 ∨ s.size < (t - 12) / 2 then none
  else some (kindT (t - 12), 0, s.extract 0 ((t - 12) / 2), (t - 12) / 2)
theorem ext_all (s : ByteArray) : s.extract 0 s.size = s := by
  apply ByteArray.ext
  rw [ByteArray.data_extract]
  exact Array.extract_size

theorem readValue_any (t p : Nat) (ht : t < 18446744073709551616) (s : ByteArray) (hs : s.size ≤ 140737488355328) (w : World) (hp : p < w.heap.size) (hc : w.cell? ⟨p, 0, none⟩ = some (.string s)) (hf : w.frozen? ⟨p, 0, none⟩ = false) :
    (∀ k n A m, rdV t s = some (k, n, A, m) → Calls Try.prog 38 #[.int .u64 (t : Int), takeF p] w fun e w' => e = .returned (val k n A) ∧ Rd p w w' (s.extract m s.size)) ∧
    (rdV t s = none → Calls Try.prog 38 #[.int .u64 (t : Int), takeF p] w fun e w' => e = .panicked badP ∧ Below p w w') := by
  have hle := Nat.le_of_lt hp
  unfold rdV
  by_cases h0 : t = 0
  · subst h0
    rw [if_pos rfl]
    refine ⟨fun k n A m h => ?_, fun h => by cases h⟩
    simp only [Option.some.injEq, Prod.mk.injEq] at h
    obtain ⟨rfl, rfl, rfl, rfl⟩ := h
    rw [ext_all]
    exact (readValue_null p w).mono fun e w' ⟨h1, h2⟩ => ⟨h1, Rd.of_below hp hc hf h2⟩
  rw [if_neg h0]
  by_cases h8 : t ≤ 8
  · rw [if_pos h8]
    by_cases hsz : s.size < t
    · rw [if_pos hsz]
      exact ⟨fun k n A m h => (by cases h), fun _ => (readValue_short t p (by omega) h8 s hsz w hc).mono fun e w' ⟨h1, h2⟩ => ⟨h1, h2.mono hle⟩⟩
    · rw [if_neg hsz]
      have hi := readValue_int t p (by omega) h8 s hs (by omega) _ rfl w hp hc hf
      by_cases hty : typN 1 (intB (s.data.toList.take t)) ⟨#[]⟩ = t
      · rw [if_pos hty]
        refine ⟨fun k n A m h => ?_, fun h => by cases h⟩
        simp only [Option.some.injEq, Prod.mk.injEq] at h
        obtain ⟨rfl, rfl, rfl, rfl⟩ := h
        exact hi.1 hty
      · rw [if_neg hty]
        exact ⟨fun k n A m h => (by cases h), fun _ => hi.2 hty⟩
  rw [if_neg h8]
  by_cases h9 : t = 9 ∨ t = 10
  · rw [if_pos h9]
    refine ⟨fun k n A m h => ?_, fun h => by cases h⟩
    simp only [Option.some.injEq, Prod.mk.injEq] at h
    obtain ⟨rfl, rfl, rfl, rfl⟩ := h
    rw [ext_all]
    exact (readValue_small t p h9 w).mono fun e w' ⟨h1, h2⟩ => ⟨h1, Rd.of_below hp hc hf h2⟩
  rw [if_neg h9]
  by_cases h11 : t = 11
  · subst h11
    rw [if_pos rfl]
    exact ⟨fun k n A m h => (by cases h), fun _ => (readValue_eleven p w).mono fun e w' ⟨h1, h2⟩ => ⟨h1, h2.mono hle⟩⟩
  rw [if_neg h11]
  by_cases hbad : 400 < (t - 12) / 2 ∨ s.size < (t - 12) / 2
  · rw [if_pos hbad]
    exact ⟨fun k n A m h => (by cases h), fun _ => (readValue_textno t p ht (by omega) s hs hbad w hc).mono fun e w' ⟨h1, h2⟩ => ⟨h1, h2.mono hle⟩⟩
  · rw [if_neg hbad]
    refine ⟨fun k n A m h => ?_, fun h => by cases h⟩
    simp only [Option.some.injEq, Prod.mk.injEq] at h
    obtain ⟨rfl, rfl, rfl, rfl⟩ := h
    exact readValue_text t p ht (by omega) s hs (by omega) (by omega) w hp hc hf
end Go.Proofs.Ytfjmoiooonialaa
