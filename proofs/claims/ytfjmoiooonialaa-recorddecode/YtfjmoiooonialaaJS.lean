/- The document's value of a type. -/
import Derived.Test.YtfjmoiooonialaaJO
namespace Go.Proofs.Ytfjmoiooonialaa
open Go.ChangeShapes Go.WideShapes Go.ChangeAt Go.RowKit
set_option linter.unusedVariables false

/-- The value of a type with which bytes begin, as the document reads it. -/
def rvV (t : Nat) (s : ByteArray) : Option (Int × Int × ByteArray × Nat) :=
  if t = 0 then some (0, 0, ⟨#[]⟩, 0)
  else if t = 9 ∨ t = 10 then some (1, (t : Int) - 9, ⟨#[]⟩, 0)
  else if t ≤ 8 then (if s.size < t then none else some (1, intB (s.data.toList.take t), ⟨#[]⟩, t))
  else if t = 11 ∨ 10000 < t then none
  else if s.size < (t - 12) / 2 then none
  else some (kindT (t - 12), 0, s.extract 0 ((t - 12) / 2), (t - 12) / 2)
theorem rdV_le (t : Nat) (s : ByteArray) (x : Int × Int × ByteArray × Nat) (h : rdV t s = some x) : rvV t s = some x := by
  unfold rdV at h
  unfold rvV
  by_cases h0 : t = 0
  · rw [if_pos h0] at h ⊢; exact h
  rw [if_neg h0] at h ⊢
  by_cases h8 : t ≤ 8
  · rw [if_pos h8] at h
    rw [if_neg (by omega), if_pos h8]
    by_cases hs : s.size < t
    · rw [if_pos hs] at h; cases h
    · rw [if_neg hs] at h ⊢
      split at h
      · exact h
      · cases h
  rw [if_neg h8] at h
  by_cases h9 : t = 9 ∨ t = 10
  · rw [if_pos h9] at h ⊢; exact h
  rw [if_neg h9] at h ⊢
  rw [if_neg h8]
  by_cases h11 : t = 11
  · rw [if_pos h11] at h; cases h
  rw [if_neg h11] at h
  by_cases hb : 400 < (t - 12) / 2 ∨ s.size < (t - 12) / 2
  · rw [if_pos hb] at h; cases h
  rw [if_neg hb] at h
  rw [if_neg (by omega), if_neg (by omega)]
  exact h
/-- The sign with which bytes begin. -/
def sg0 (l : List UInt8) : Int := match l with
  | [] => 0
  | b :: _ => if b.toNat < 128 then 0 else -1
theorem numB_sg (l : List UInt8) : numB (sg0 l) l = intB l := by
  cases l with
  | nil => rfl
  | cons b r =>
    simp only [sg0, numB, intB, sgnB]
    congr 1
    split <;> omega
theorem numI_range (l : List UInt8) (i : Nat) (hi : i ≤ 7) : -36028797018963968 ≤ numB (sg0 l) (l.take i) ∧ numB (sg0 l) (l.take i) < 36028797018963968 := by
  cases l with
  | nil => simp [numB, sg0]
  | cons b r =>
    cases i with
    | zero =>
      simp only [List.take_zero, numB, sg0]
      split <;> omega
    | succ i =>
      have e : numB (sg0 (b :: r)) ((b :: r).take (i + 1)) = numB (sgnB b) (r.take i) := by
        simp only [List.take_succ_cons, numB, sg0, sgnB]
        congr 1
        split <;> omega
      rw [e]
      have h1 := numB_range (sgnB b) 128 (r.take i) (by have := sgnB_range b; omega)
      have h2 : (r.take i).length ≤ 6 := by simp; omega
      generalize (r.take i).length = m at h1 h2
      have h3 : (256 : Int) ^ m ≤ 281474976710656 := by
        have : m = 0 ∨ m = 1 ∨ m = 2 ∨ m = 3 ∨ m = 4 ∨ m = 5 ∨ m = 6 := by omega
        rcases this with rfl | rfl | rfl | rfl | rfl | rfl | rfl <;> decide
      omega
theorem num_step (l : List UInt8) (i : Nat) (h : i < l.length) : numB (sg0 l) (l.take (i + 1)) = numB (sg0 l) (l.take i) * 256 + (l[i]'h).toNat := by
  rw [List.take_succ_eq_append_getElem h, numB_snoc]

theorem ret_val2r {w1 : World} {g j i : Nat} {x y z : Value} {fn : Func} (hres : fn.results = #[.cell j 46, .tmp i]) {tmps : Array Value} (ht : tmps.getD j undef = .pointer (some ⟨g, 0, none⟩)) {u : Value} (hu : tmps.getD i undef = u)
    (hb : w1.heap[g]? = some (.cells #[x, y, z] 46 (0, 0))) {a b c : Value} {R : Ending → World → Prop}
    (h : R (.returned (.tuple #[.agg #[a, b, c], u])) (((w1.setCell ⟨g, 0, none⟩ a).setCell ⟨g, 1, none⟩ b).setCell ⟨g, 2, none⟩ c)) :
    bodyPost Try.prog fn R Exit.ret { tmps := tmps, defers := [] } (((w1.setCell ⟨g, 0, none⟩ a).setCell ⟨g, 1, none⟩ b).setCell ⟨g, 2, none⟩ c) := by
  have hs := set_block (set_block (set_block hb 0 a) 1 b) 2 c
  have hl := run_loadVar_row (P := Try.prog) (((w1.setCell ⟨g, 0, none⟩ a).setCell ⟨g, 1, none⟩ b).setCell ⟨g, 2, none⟩ c) g 46 46 #[a, b, c] (0, 0) _ (by simpa using hs) Try.underlying46 rfl infoV
  refine bodyPost_ret (v := .tuple #[.agg #[a, b, c], u]) ?_ rfl h
  have ht' : tmps[j]?.getD undef = .pointer (some ⟨g, 0, none⟩) := by simpa using ht
  have hu' : tmps[i]?.getD undef = u := by simpa using hu
  simp [results, hres, ht', hu', asAddr, hl]
theorem sets_below {w : World} (a b c : Value) : Below w.heap.size w ((((w.alloc nilv).setCell ⟨w.heap.size, 0, none⟩ a).setCell ⟨w.heap.size, 1, none⟩ b).setCell ⟨w.heap.size, 2, none⟩ c) :=
  (((new_below w nilv rfl).setCell (Nat.le_refl _) _).setCell (Nat.le_refl _) _).setCell (Nat.le_refl _) _

set_option maxHeartbeats 2000000 in
set_option maxRecDepth 10000 in
theorem rvalue_small (t : Nat) (h : t = 0 ∨ t = 9 ∨ t = 10) (s : ByteArray) (w : World) : Calls Try.prog 32 #[.int .u64 (t : Int), .string s] w fun e w' => e = .returned (.tuple #[val (if t = 0 then 0 else 1) (if t = 0 then 0 else (t : Int) - 9) ⟨#[]⟩, .int .i64 0]) ∧ Below w.heap.size w w' := by
  rcases h with rfl | rfl | rfl
  · go_enter Try.func32, Try.ntmps32
    go_wp2
    go_returns
    exact ⟨rfl, by go_grown⟩
  · go_enter Try.func32, Try.ntmps32
    go_wp2
    go_returns
    exact ⟨rfl, by go_grown⟩
  · go_enter Try.func32, Try.ntmps32
    go_wp2
    go_returns
    exact ⟨rfl, by go_grown⟩

set_option maxHeartbeats 2000000 in
set_option maxRecDepth 10000 in
theorem rvalue_no (t : Nat) (ht : t < 18446744073709551616) (s : ByteArray) (hs : s.size ≤ 140737488355328) (h : (1 ≤ t ∧ t ≤ 8 ∧ s.size < t) ∨ t = 11 ∨ 10000 < t ∨ (12 ≤ t ∧ t ≤ 10000 ∧ s.size < (t - 12) / 2)) (w : World) : Calls Try.prog 32 #[.int .u64 (t : Int), .string s] w fun e w' => e = .returned (.tuple #[val 0 0 ⟨#[]⟩, .int .i64 (-1)]) ∧ Below w.heap.size w w' := by
  have n0 : ¬ (t : Int) = 0 := by omega
  have n1 : ¬ (t : Int) = 9 := by omega
  have n2 : ¬ (t : Int) = 10 := by omega
  have g0 : ((t : Int) == 0) = false := by simp; omega
  have g1 : ((t : Int) == 9) = false := by simp; omega
  have g2 : ((t : Int) == 10) = false := by simp; omega
  rcases h with ⟨h1, h2, h3⟩ | h | h | ⟨h1, h2, h3⟩
  · have l1 : (t : Int) ≤ 8 := by omega
    have l2 : (s.size : Int) < (t : Int) := by omega
    have x1 : IntKind.i64.wrap (t : Int) = (t : Int) := by rw [IntKind.wrap_i64]; omega
    clear ht
    go_enter Try.func32, Try.ntmps32
    go_wp2
    go_returns
    exact ⟨rfl, by go_grown⟩
  · subst h
    go_enter Try.func32, Try.ntmps32
    go_wp2
    go_returns
    exact ⟨rfl, by go_grown⟩
  · have l1 : ¬ (t : Int) ≤ 8 := by omega
    have l2 : (10000 : Int) < (t : Int) := by omega
    have g3 : ((t : Int) == 11) = false := by simp; omega
    have n3 : ¬ (t : Int) = 11 := by omega
    clear ht h
    go_enter Try.func32, Try.ntmps32
    go_wp2
    go_returns
    exact ⟨rfl, by go_grown⟩
  · have l1 : ¬ (t : Int) ≤ 8 := by omega
    have l2 : ¬ (10000 : Int) < (t : Int) := by omega
    have g3 : ((t : Int) == 11) = false := by simp; omega
    have n3 : ¬ (t : Int) = 11 := by omega
    have x1 : IntKind.i64.wrap (t : Int) = (t : Int) := by rw [IntKind.wrap_i64]; omega
    obtain ⟨u, hu⟩ : ∃ u, t - 12 = u := ⟨_, rfl⟩
    obtain ⟨m, hm⟩ : ∃ m, u / 2 = m := ⟨_, rfl⟩
    have x2 : IntKind.i64.wrap ((t : Int) - 12) = (u : Int) := by rw [IntKind.wrap_i64]; omega
    have x3 : (u : Int).tdiv 2 = (m : Int) := by rw [Int.tdiv_eq_ediv_of_nonneg (by omega)]; omega
    have l3 : (s.size : Int) < (m : Int) := by omega
    have l5 : (0 : Int) ≤ (m : Int) := by omega
    have l6 : (m : Int) ≤ 5000 := by omega
    clear ht hu hm h3
    go_enter Try.func32, Try.ntmps32
    go_wp2
    go_returns
    exact ⟨rfl, by go_grown⟩
set_option maxHeartbeats 2000000 in
set_option maxRecDepth 10000 in
theorem rvalue_text (t : Nat) (s : ByteArray) (hs : s.size ≤ 140737488355328) (h1 : 12 ≤ t) (h2 : t ≤ 10000) (h3 : (t - 12) / 2 ≤ s.size) (w : World) : Calls Try.prog 32 #[.int .u64 (t : Int), .string s] w fun e w' => e = .returned (.tuple #[val (kindT (t - 12)) 0 (s.extract 0 ((t - 12) / 2)), .int .i64 (((t - 12) / 2 : Nat) : Int)]) ∧ Below w.heap.size w w' := by
  have n0 : ¬ (t : Int) = 0 := by omega
  have n1 : ¬ (t : Int) = 9 := by omega
  have n2 : ¬ (t : Int) = 10 := by omega
  have g0 : ((t : Int) == 0) = false := by simp; omega
  have g1 : ((t : Int) == 9) = false := by simp; omega
  have g2 : ((t : Int) == 10) = false := by simp; omega
  have l1 : ¬ (t : Int) ≤ 8 := by omega
  have l2 : ¬ (10000 : Int) < (t : Int) := by omega
  have g3 : ((t : Int) == 11) = false := by simp; omega
  have n3 : ¬ (t : Int) = 11 := by omega
  have x1 : IntKind.i64.wrap (t : Int) = (t : Int) := by rw [IntKind.wrap_i64]; omega
  obtain ⟨m, hm⟩ : ∃ m, (t - 12) / 2 = m := ⟨_, rfl⟩
  obtain ⟨u, hu⟩ : ∃ u, t - 12 = u := ⟨_, rfl⟩
  have x2 : IntKind.i64.wrap ((t : Int) - 12) = (u : Int) := by rw [IntKind.wrap_i64]; omega
  have x3 : (u : Int).tdiv 2 = (m : Int) := by rw [Int.tdiv_eq_ediv_of_nonneg (by omega)]; omega
  have l3 : ¬ (s.size : Int) < (m : Int) := by omega
  have l4 : (m : Int) ≤ (s.size : Int) := by omega
  have l5 : (0 : Int) ≤ (m : Int) := by omega
  rw [hm]
  by_cases hp : t % 2 = 0
  · have hk : kindT (t - 12) = 3 := if_neg (by omega)
    have p1 : (t : Int) % 2 = 0 := by omega
    have p2 : (t : Int).tmod 2 = 0 := by rw [Int.tmod_eq_emod_of_nonneg (by omega)]; omega
    rw [hk]
    clear hk hp hm h3 hu
    go_enter Try.func32, Try.ntmps32
    go_wp2
    go_returns
    exact ⟨rfl, by go_grown⟩
  · have hk : kindT (t - 12) = 2 := if_pos (by omega)
    have p1 : (t : Int) % 2 = 1 := by omega
    have p2 : (t : Int).tmod 2 = 1 := by rw [Int.tmod_eq_emod_of_nonneg (by omega)]; omega
    rw [hk]
    clear hk hp hm h3 hu
    go_enter Try.func32, Try.ntmps32
    go_wp2
    go_returns
    exact ⟨rfl, by go_grown⟩

set_option maxHeartbeats 2000000 in
set_option maxRecDepth 10000 in
theorem rvalue_int (t : Nat) (s : ByteArray) (hs : s.size ≤ 140737488355328) (h1 : 1 ≤ t) (h2 : t ≤ 8) (h3 : t ≤ s.size) (w : World) : Calls Try.prog 32 #[.int .u64 (t : Int), .string s] w fun e w' => e = .returned (.tuple #[val 1 (numB (sg0 s.data.toList) (s.data.toList.take t)) ⟨#[]⟩, .int .i64 (t : Int)]) ∧ Below w.heap.size w w' := by
  have n0 : ¬ (t : Int) = 0 := by omega
  have n1 : ¬ (t : Int) = 9 := by omega
  have n2 : ¬ (t : Int) = 10 := by omega
  have g0 : ((t : Int) == 0) = false := by simp; omega
  have g1 : ((t : Int) == 9) = false := by simp; omega
  have g2 : ((t : Int) == 10) = false := by simp; omega
  have l1 : (t : Int) ≤ 8 := by omega
  have x1 : IntKind.i64.wrap (t : Int) = (t : Int) := by rw [IntKind.wrap_i64]; omega
  have l3 : ¬ (s.size : Int) < (t : Int) := by omega
  have l4 : (0 : Int) < (s.size : Int) := by omega
  have hL : s.data.toList.length = s.size := by simp
  obtain ⟨q, hq⟩ : ∃ q : UInt8, s[0]'(by omega) = q := ⟨_, rfl⟩
  have hb0 : ∀ (h : 0 < s.size), ((s[0]'h).toNat : Int) = (q.toNat : Int) := fun h => by rw [hq]
  have hsg : sg0 s.data.toList = if q.toNat < 128 then 0 else -1 := by
    have e : s.data.toList = q :: s.data.toList.drop 1 := by
      rw [← hq]
      conv => lhs; rw [← List.drop_zero (l := s.data.toList), List.drop_eq_getElem_cons (by rw [hL]; omega)]
      rfl
    rw [e]; rfl
  obtain ⟨L, hLL⟩ : ∃ L, s.data.toList = L := ⟨_, rfl⟩
  have HB : Hid (∀ (j : Nat) (h : j < s.size) (h' : j < L.length), (L[j]'h') = s[j]'h) := by
    show ∀ (j : Nat) (h : j < s.size) (h' : j < L.length), (L[j]'h') = s[j]'h
    subst hLL
    intro j h h'
    rfl
  rw [hLL] at hL hsg
  rw [hLL]
  have HL := hide hL
  have HSg := hide hsg
  clear hLL hL hsg hq
  obtain ⟨X0, hX0⟩ : ∃ X0, sg0 L = X0 := ⟨_, rfl⟩
  have HR : Hid (∀ i, i ≤ 7 → -36028797018963968 ≤ numB X0 (L.take i) ∧ numB X0 (L.take i) < 36028797018963968) := by
    show ∀ i, i ≤ 7 → _
    rw [← hX0]; exact numI_range L
  have HS : Hid (∀ (i : Nat) (h : i < L.length), numB X0 (L.take (i + 1)) = numB X0 (L.take i) * 256 + (L[i]'h).toNat) := by
    show ∀ (i : Nat) (h : i < L.length), _
    rw [← hX0]; exact num_step L
  rw [hX0] at HSg
  rw [hX0]
  clear hX0
  obtain ⟨X, hX⟩ : ∃ X : Nat → Int, ∀ i, numB X0 (L.take i) = X i := ⟨fun i => numB X0 (L.take i), fun _ => rfl⟩
  have HRX : Hid (∀ i, i ≤ 7 → -36028797018963968 ≤ X i ∧ X i < 36028797018963968) := fun i hi => by rw [← hX]; exact HR.out i hi
  have HSX : Hid (∀ (i : Nat) (h : i < L.length), X (i + 1) = X i * 256 + (L[i]'h).toNat) := fun i h => by rw [← hX, ← hX]; exact HS.out i h
  have HX0 : Hid (X 0 = X0) := by show _ = _; rw [← hX]; rfl
  rw [hX]
  clear hX HR HS
  have HN := hide (new_below w nilv rfl)
  have HK := hide (blk_new w nilv)
  by_cases hp : q.toNat < 128
  · rw [if_pos hp] at HSg
    obtain rfl := HSg.out
    have p1 : ¬ (128 : Int) ≤ (q.toNat : Int) := by omega
    clear hp
    go_enter Try.func32, Try.ntmps32
    go_wp2
    go_name_world W hW
    rw [hW] at HN HK
    clear hW
    go_loopw [6, 7] (fun xv iv wr => ∃ j : Nat, j ≤ t ∧ iv = .int .i64 (j : Int) ∧ xv = .int .i64 (X j) ∧ W = wr) (fun _ iv _ => t - (intOf iv).toNat)
    case atStart => exact ⟨0, Nat.zero_le _, rfl, by rw [HX0.out], rfl⟩
    case round =>
      obtain ⟨j, hj, rfl, rfl, rfl⟩ := hrel
      by_cases hlt : j < t
      · have k1 : (j : Int) < (t : Int) := by omega
        have k0 : (0 : Int) ≤ (j : Int) := by omega
        have k2 : (j : Int) < (s.size : Int) := by omega
        obtain ⟨r, hr⟩ : ∃ r : UInt8, s[j]'(by omega) = r := ⟨_, rfl⟩
        have hb1 : ∀ (h : j < s.size), ((s[j]'h).toNat : Int) = (r.toNat : Int) := fun h => by rw [hr]
        have hw1 : IntKind.i64.wrap ((j : Int) + 1) = (j : Int) + 1 := by rw [IntKind.wrap_i64]; omega
        have hrg := HRX.out j (by omega)
        have hst := HSX.out j (by rw [HL.out]; omega)
        rw [HB.out j (by omega), hr] at hst
        have hrl := r.toNat_lt
        obtain ⟨x, hx⟩ : ∃ x, X j = x := ⟨_, rfl⟩
        rw [hx] at hst hrg
        have y1 : IntKind.i64.wrap (x * 256) = x * 256 := by rw [IntKind.wrap_i64]; omega
        have y2 : IntKind.i64.wrap (x * 256 + (r.toNat : Int)) = X (j + 1) := by rw [IntKind.wrap_i64, hst]; omega
        have y3 : wrap64 (x * 256 + (r.toNat : Int)) = X (j + 1) := by rw [← y2, IntKind.wrap_i64]; unfold wrap64; omega
        have y4 : wrap64 (r.toNat : Int) = (r.toNat : Int) := by unfold wrap64; omega
        rw [hx]
        clear hrg hst hr hrl hx
        go_wp2
        refine ⟨⟨j + 1, hlt, rfl, by first | rfl | rw [y4, y3] | rw [y3], trivial⟩, ?_⟩
        simp only [intOf]; omega
      · have k1 : ¬ (j : Int) < (t : Int) := by omega
        obtain rfl : t = j := by omega
        obtain ⟨d0, d1, d2, f0, f1, f2⟩ := res_facts HK.out
        go_wp2
        exact ret_val2r rfl rfl rfl HK.out ⟨rfl, ((HN.out.setCell (Nat.le_refl _) _).setCell (Nat.le_refl _) _).setCell (Nat.le_refl _) _⟩
  · rw [if_neg hp] at HSg
    obtain rfl := HSg.out
    have p1 : (128 : Int) ≤ (q.toNat : Int) := by omega
    clear hp
    go_enter Try.func32, Try.ntmps32
    go_wp2
    go_name_world W hW
    rw [hW] at HN HK
    clear hW
    go_loopw [6, 7] (fun xv iv wr => ∃ j : Nat, j ≤ t ∧ iv = .int .i64 (j : Int) ∧ xv = .int .i64 (X j) ∧ W = wr) (fun _ iv _ => t - (intOf iv).toNat)
    case atStart => exact ⟨0, Nat.zero_le _, rfl, by rw [HX0.out], rfl⟩
    case round =>
      obtain ⟨j, hj, rfl, rfl, rfl⟩ := hrel
      by_cases hlt : j < t
      · have k1 : (j : Int) < (t : Int) := by omega
        have k0 : (0 : Int) ≤ (j : Int) := by omega
        have k2 : (j : Int) < (s.size : Int) := by omega
        obtain ⟨r, hr⟩ : ∃ r : UInt8, s[j]'(by omega) = r := ⟨_, rfl⟩
        have hb1 : ∀ (h : j < s.size), ((s[j]'h).toNat : Int) = (r.toNat : Int) := fun h => by rw [hr]
        have hw1 : IntKind.i64.wrap ((j : Int) + 1) = (j : Int) + 1 := by rw [IntKind.wrap_i64]; omega
        have hrg := HRX.out j (by omega)
        have hst := HSX.out j (by rw [HL.out]; omega)
        rw [HB.out j (by omega), hr] at hst
        have hrl := r.toNat_lt
        obtain ⟨x, hx⟩ : ∃ x, X j = x := ⟨_, rfl⟩
        rw [hx] at hst hrg
        have y1 : IntKind.i64.wrap (x * 256) = x * 256 := by rw [IntKind.wrap_i64]; omega
        have y2 : IntKind.i64.wrap (x * 256 + (r.toNat : Int)) = X (j + 1) := by rw [IntKind.wrap_i64, hst]; omega
        have y3 : wrap64 (x * 256 + (r.toNat : Int)) = X (j + 1) := by rw [← y2, IntKind.wrap_i64]; unfold wrap64; omega
        have y4 : wrap64 (r.toNat : Int) = (r.toNat : Int) := by unfold wrap64; omega
        rw [hx]
        clear hrg hst hr hrl hx
        go_wp2
        refine ⟨⟨j + 1, hlt, rfl, by first | rfl | rw [y4, y3] | rw [y3], trivial⟩, ?_⟩
        simp only [intOf]; omega
      · have k1 : ¬ (j : Int) < (t : Int) := by omega
        obtain rfl : t = j := by omega
        obtain ⟨d0, d1, d2, f0, f1, f2⟩ := res_facts HK.out
        go_wp2
        exact ret_val2r rfl rfl rfl HK.out ⟨rfl, ((HN.out.setCell (Nat.le_refl _) _).setCell (Nat.le_refl _) _).setCell (Nat.le_refl _) _⟩

/-- The document's value of any type, exact. -/
theorem rvalue_any (t : Nat) (ht : t < 18446744073709551616) (s : ByteArray) (hs : s.size ≤ 140737488355328) (w : World) :
    (∀ k n A m, rvV t s = some (k, n, A, m) → Calls Try.prog 32 #[.int .u64 (t : Int), .string s] w fun e w' => e = .returned (.tuple #[val k n A, .int .i64 (m : Int)]) ∧ Below w.heap.size w w') ∧
    (rvV t s = none → Calls Try.prog 32 #[.int .u64 (t : Int), .string s] w fun e w' => e = .returned (.tuple #[val 0 0 ⟨#[]⟩, .int .i64 (-1)]) ∧ Below w.heap.size w w') := by
  unfold rvV
  by_cases h0 : t = 0
  · rw [if_pos h0]
    refine ⟨fun k n A m h => ?_, fun h => by cases h⟩
    simp only [Option.some.injEq, Prod.mk.injEq] at h
    obtain ⟨rfl, rfl, rfl, rfl⟩ := h
    have := rvalue_small t (Or.inl h0) s w
    rwa [if_pos h0, if_pos h0] at this
  rw [if_neg h0]
  by_cases h9 : t = 9 ∨ t = 10
  · rw [if_pos h9]
    refine ⟨fun k n A m h => ?_, fun h => by cases h⟩
    simp only [Option.some.injEq, Prod.mk.injEq] at h
    obtain ⟨rfl, rfl, rfl, rfl⟩ := h
    have := rvalue_small t (Or.inr h9) s w
    rwa [if_neg h0, if_neg h0] at this
  rw [if_neg h9]
  by_cases h8 : t ≤ 8
  · rw [if_pos h8]
    by_cases hz : s.size < t
    · rw [if_pos hz]
      exact ⟨fun k n A m h => (by cases h), fun _ => rvalue_no t ht s hs (Or.inl ⟨by omega, h8, hz⟩) w⟩
    · rw [if_neg hz]
      refine ⟨fun k n A m h => ?_, fun h => by cases h⟩
      simp only [Option.some.injEq, Prod.mk.injEq] at h
      obtain ⟨rfl, rfl, rfl, rfl⟩ := h
      have := rvalue_int t s hs (by omega) h8 (by omega) w
      have e : numB (sg0 s.data.toList) (s.data.toList.take t) = intB (s.data.toList.take t) := by
        rw [← numB_sg]
        have : sg0 s.data.toList = sg0 (s.data.toList.take t) := by
          cases s.data.toList with
          | nil => simp
          | cons b r =>
            cases t with
            | zero => omega
            | succ t => rfl
        rw [this]
      rwa [e] at this
  rw [if_neg h8]
  by_cases h11 : t = 11 ∨ 10000 < t
  · rw [if_pos h11]
    refine ⟨fun k n A m h => (by cases h), fun _ => rvalue_no t ht s hs ?_ w⟩
    rcases h11 with h | h
    · exact Or.inr (Or.inl h)
    · exact Or.inr (Or.inr (Or.inl h))
  rw [if_neg h11]
  by_cases hz : s.size < (t - 12) / 2
  · rw [if_pos hz]
    exact ⟨fun k n A m h => (by cases h), fun _ => rvalue_no t ht s hs (Or.inr (Or.inr (Or.inr ⟨by omega, by omega, hz⟩))) w⟩
  · rw [if_neg hz]
    refine ⟨fun k n A m h => ?_, fun h => by cases h⟩
    simp only [Option.some.injEq, Prod.mk.injEq] at h
    obtain ⟨rfl, rfl, rfl, rfl⟩ := h
    exact rvalue_text t s hs (by omega) (by omega) (by omega) w
end Go.Proofs.Ytfjmoiooonialaa
