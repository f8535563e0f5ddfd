/- Package space: small functions; numbers as cells; texts appended. -/
/- Package spill: what a call comes to that is refused. -/
import Derived.Test.YthgclfhfipfknaaGreatGG
import Derived.Test.YthgclfhfipfknaaGreatOF
namespace Go.Proofs.YthgclfhfipfknaaGreat
open Go.ChangeShapes Go.WideShapes Go.ChangeAt Go.RowKit Go.Maps
set_option linter.unusedVariables false

theorem smayChange_e (w : World) (v : Option Addr) (E : Int) (h : ChK w v E) (hE : E ≠ 2) : Calls Tryz.prog 95 #[.pointer v] w fun e w' => e = .returned (.int .i64 E) ∧ Below w.heap.size w w' := by
  have HS := hide (shrink_neg w v E h)
  clear h
  by_cases he : E = 0
  · subst he
    rw [show shE 0 = 2 from rfl] at HS
    go_enter Tryz.func95, Tryz.ntmps95
    go_wp2_with (first
      | (go_at_call 180; (with_reducible refine Calls.mono HS.out ?_); rintro e w4 ⟨rfl, hb⟩; have HB4 := hide hb; clear hb))
    go_ret
    exact ⟨rfl, HB4.out⟩
  · rw [show shE E = E from if_neg he] at HS
    have he2 : (E == 2) = false := by simpa using hE
    go_enter Tryz.func95, Tryz.ntmps95
    go_wp2_with (first
      | (go_at_call 180; (with_reducible refine Calls.mono HS.out ?_); rintro e w4 ⟨rfl, hb⟩; have HB4 := hide hb; clear hb))
    go_ret
    exact ⟨rfl, HB4.out⟩
theorem ChK.ne2 {w : World} {v : Option Addr} {E : Int} (h : ChK w v E) : E ≠ 2 := by
  cases h with
  | stop h he => cases h <;> simp
  | reads h ht => simp
  | may h ht => simp
/-- A cell of four bytes as a number; a number's cell. -/
def numL (l : List UInt8) : Nat := ((byt l 0 * 256 + byt l 1) * 256 + byt l 2) * 256 + byt l 3
def numS (s : ByteArray) : Nat := numL s.data.toList
theorem numS_lt (s : ByteArray) : numS s < 4294967296 := by
  unfold numS numL
  generalize s.data.toList = l
  have := byt_lt l 0; have := byt_lt l 1; have := byt_lt l 2; have := byt_lt l 3
  omega
def cellB (n : Nat) : ByteArray := ⟨#[UInt8.ofNat (n / 16777216), UInt8.ofNat (n / 65536), UInt8.ofNat (n / 256), UInt8.ofNat n]⟩
theorem cellB_size (n : Nat) : (cellB n).size = 4 := rfl
theorem num_cell (n : Nat) (h : n < 4294967296) : numS (cellB n) = n := by
  unfold numS cellB numL byt
  simp
  omega
def nmN (l : List UInt8) : Nat → Nat
  | 0 => 0
  | j + 1 => nmN l j * 256 + byt l j
theorem nmN_lt (l : List UInt8) : ∀ j, nmN l j < 256 ^ j
  | 0 => by simp [nmN]
  | j + 1 => by
    have h := nmN_lt l j
    have hb := byt_lt l j
    simp only [nmN, Nat.pow_succ]
    omega
theorem nmN_four (l : List UInt8) : nmN l 4 = numL l := by simp [nmN, numL]
theorem num_step (l : List UInt8) (j : Nat) (h : j < 4) : bits BinOp.or IntKind.u32 ((nmN l j : Int) * 256 % 4294967296) ((byt l j : Int) % 4294967296) = (nmN l (j + 1) : Int) := by
  have hb := byt_lt l j
  have hj := nmN_lt l j
  have hp : nmN l j < 16777216 := by
    have : 256 ^ j ≤ 256 ^ 3 := Nat.pow_le_pow_right (by omega) (by omega)
    omega
  have e1 : (nmN l j : Int) * 256 % 4294967296 = ((nmN l j * 256 : Nat) : Int) := by omega
  have e2 : (byt l j : Int) % 4294967296 = (byt l j : Int) := by omega
  rw [e1, e2, u32_or_nat _ _ (by omega) (by omega)]
  have := Nat.two_pow_add_eq_or_of_lt (i := 8) (b := byt l j) (by omega) (nmN l j)
  simp only [nmN]
  have e3 : nmN l j * 256 = 2 ^ 8 * nmN l j := by omega
  rw [e3, ← this]
theorem str_byt (s : ByteArray) (j : Nat) (h : j < s.size) : s[j].toNat = byt s.data.toList j := by
  unfold byt
  have hl : j < s.data.toList.length := by rw [bytes_size]; exact h
  rw [List.getElem?_eq_getElem hl]
  rfl
set_option maxRecDepth 20000 in
set_option maxHeartbeats 1000000 in
theorem number_e (w : World) (s : ByteArray) (hs : s.size = 4) : Calls Tryz.prog 199 #[.string s] w fun e w' => e = .returned (.int .u32 (numS s : Int)) ∧ w = w' := by
  have hl : s.data.toList.length = 4 := by rw [bytes_size]; exact hs
  have HN : Hid (numS s = nmN s.data.toList 4) := (nmN_four _).symm
  go_enter Tryz.func199, Tryz.ntmps199
  go_wp2
  go_loopw [7, 3] (fun iv av wr => ∃ j : Nat, j ≤ 4 ∧ iv = .int .i64 (j : Int) ∧ av = .int .u32 ((nmN s.data.toList j : Nat) : Int) ∧ wr = w) (fun iv _ _ => 4 - (intOf iv).toNat)
  case atStart => exact ⟨0, Nat.zero_le _, rfl, rfl, rfl⟩
  case round =>
    obtain ⟨j, hj, rfl, rfl, rfl⟩ := hrel
    by_cases hlt : j < 4
    · have l1 : (j : Int) < 4 := by omega
      have l0 : (0 : Int) ≤ (j : Int) := by omega
      have hw1 : IntKind.i64.wrap ((j : Int) + 1) = (j : Int) + 1 := by rw [IntKind.wrap_i64]; omega
      go_wp2
      refine ⟨⟨j + 1, hlt, rfl, ?_, trivial⟩, ?_⟩
      · rw [str_byt s j (by omega), num_step _ _ hlt]
      · simp only [intOf]; omega
    · have l1 : ¬ (j : Int) < 4 := by omega
      obtain rfl : j = 4 := by omega
      go_wp2
      go_ret
      rw [HN.out]
      exact ⟨rfl, rfl⟩
theorem bytes_info : ∃ i, Tryz.prog.info? 5 = some i ∧ i.zero = some (.int .u8 0) ∧ i.size = 1 ∧ i.bytes = 1 := by
  have h : (Tryz.prog.info? 5).map (fun i => (i.zero, i.size, i.bytes)) = some (some (.int .u8 0), 1, 1) := by kernel_rfl
  obtain ⟨i, h1, h2⟩ := Option.map_eq_some_iff.1 h
  simp only [Prod.mk.injEq] at h2
  exact ⟨i, h1, h2.1, h2.2.1, h2.2.2⟩
set_option maxRecDepth 20000 in
set_option maxHeartbeats 1000000 in
theorem cellOf_e (w : World) (n : Nat) (hn : n < 4294967296) : Calls Tryz.prog 181 #[.int .u32 (n : Int)] w fun e w' => e = .returned (.string (cellB n)) ∧ Below w.heap.size w w' := by
  have hc : ∀ V : World, (convert 88 9 (.slice (some ⟨V.heap.size, 0, none⟩) 4 4)).run Tryz.prog (V.alloc (.cells #[.int .u8 ((n : Int) / 16777216), .int .u8 ((n : Int) / 65536 % 256), .int .u8 ((n : Int) / 256 % 256), .int .u8 ((n : Int) % 256)] 5)) = .ok (.string (cellB n)) (V.alloc (.cells #[.int .u8 ((n : Int) / 16777216), .int .u8 ((n : Int) / 65536 % 256), .int .u8 ((n : Int) / 256 % 256), .int .u8 ((n : Int) % 256)] 5)) := fun V => by
    refine conv_piece _ V.heap.size 0 4 [UInt8.ofNat (n / 16777216), UInt8.ofNat (n / 65536), UInt8.ofNat (n / 256), UInt8.ofNat n] (fun j hj => ?_)
    have hj4 : j < 4 := by simpa using hj
    rw [Nat.zero_add, cell_of_row _ _ _ _ _ _ (heap_alloc_new V _)]
    match j, hj4 with
    | 0, _ => simp [byt]; omega
    | 1, _ => simp [byt]
    | 2, _ => simp [byt]
    | 3, _ => simp [byt]
  go_enter Tryz.func181, Tryz.ntmps181
  have HB := hide (below_alloc w (.cells #[.int .u8 ((n : Int) / 16777216), .int .u8 ((n : Int) / 65536 % 256), .int .u8 ((n : Int) / 256 % 256), .int .u8 ((n : Int) % 256)] 5))
  go_wp2
  go_ret
  exact ⟨rfl, HB.out⟩
def isN (i : Int) : Bool := decide (0 ≤ i ∧ i < 8)
def mbF (n c : Int) : Bool := decide (2 ≤ n ∧ n ≤ c)
theorem mayBeFree_e (w : World) (n c : Int) : Calls Tryz.prog 114 #[.int .i64 n, .int .i64 c] w fun e w' => e = .returned (.bool (mbF n c)) ∧ w = w' := by
  by_cases h1 : 2 ≤ n
  · by_cases h2 : n ≤ c
    · go_enter Tryz.func114, Tryz.ntmps114
      go_wp2
      go_ret
      exact ⟨by rw [show mbF n c = true from decide_eq_true ⟨h1, h2⟩]; rfl, rfl⟩
    · go_enter Tryz.func114, Tryz.ntmps114
      go_wp2
      go_ret
      exact ⟨by rw [show mbF n c = false from decide_eq_false (fun h => by omega)]; rfl, rfl⟩
  · go_enter Tryz.func114, Tryz.ntmps114
    go_wp2
    go_ret
    exact ⟨by rw [show mbF n c = false from decide_eq_false (fun h => by omega)]; rfl, rfl⟩
/-- Rows of texts. -/
def strL (n : Nat) (S : Nat → ByteArray) : List Value := (List.range n).map fun i => .string (S i)
theorem strL_at {n : Nat} {S : Nat → ByteArray} {j : Nat} (h : j < n) : (strL n S)[j]? = some (.string (S j)) := by simp [strL, h]
theorem strL_snoc (n : Nat) (S : Nat → ByteArray) : strL (n + 1) S = strL n S ++ [.string (S n)] := by simp [strL, List.range_succ]
theorem str_info : ∃ i, Tryz.prog.info? 9 = some i ∧ i.zero = some (.string ⟨#[]⟩) ∧ i.size = 1 ∧ i.bytes = 16 := by
  have h : (Tryz.prog.info? 9).map (fun i => (i.zero, i.size, i.bytes)) = some (some (.string ⟨#[]⟩), 1, 16) := by kernel_rfl
  obtain ⟨i, h1, h2⟩ := Option.map_eq_some_iff.1 h
  simp only [Prod.mk.injEq] at h2
  exact ⟨i, h1, h2.1, h2.2.1, h2.2.2⟩
theorem add0 (g j : Nat) : (⟨g, 0, none⟩ : Addr).add j = ⟨g, j, none⟩ := by unfold Addr.add; split <;> simp_all
theorem one_cell (V : World) (v : Value) (T : TypeId) : ∀ j u, [v][j]? = some u → (V.alloc (.cells #[v] T)).cell? ((⟨V.heap.size, 0, none⟩ : Addr).add j) = some u := by
  intro j u hu
  rw [add0, (Blk.new V #[v] T).cell]
  simpa using hu
theorem one_str (s : ByteArray) : ∀ u ∈ [Value.string s], u.oneCell' = true := by
  intro u hu
  simp at hu
  rw [hu]; rfl
theorem own_form {w : World} {base e size n : Nat} {v : Value} {xs : List Value} (h : w.ownsRow base e size v n xs) : ∃ p c, v = .slice p n c := by
  rcases h.2 with ⟨rfl, h0⟩ | ⟨g, cap, cur, rfl, _⟩
  · exact ⟨none, 0, by rw [h0]⟩
  · exact ⟨_, _, rfl⟩
/-- Texts are appended to a row that is owned. -/
theorem wp_appS {ops : Array Oper} {rest : List Oper} {o : Oper} {a : Act} {Q : Exit → Act → World → Prop} {w : World} {base n : Nat} {v : Value} {xs : List Value} (hown : w.ownsRow base 9 1 v n xs) {ad : Addr} {m c : Nat} {news : List Value}
    (hl : news.length = m * 1) (hnews : ∀ j u, news[j]? = some u → w.cell? (ad.add j) = some u) (h1 : ∀ u ∈ news, u.oneCell' = true) (hn : (n + m) * 16 ≤ 140737488355328) (hbase : base ≤ w.heap.size) (s z : Operand)
    (hgd : o.guard = none) (ho : o.op = .call { callee := .builtin .append, args := #[s, z], argTypes := #[53, 53] }) (hs : a.eval s = v) (hz : a.eval z = .slice (some ad) m c)
    (hk : ∀ v' w', w'.ownsRow base 9 1 v' (n + m) (xs ++ news) → (∀ A, Below base A w → Below base A w') → wpList Tryz.prog ops Q rest (a.put o.dst v') w') : wpList Tryz.prog ops Q (o :: rest) a w := by
  obtain ⟨i, hi, hz0, hsz, hby⟩ := str_info
  refine wpList_append_own w hgd s z 53 ho base 9 i _ 1 16 Tryz.underlying53 hi hz0 hsz hby rfl (by omega) v n xs hs hown ad m c news hz hl hnews h1 (by simp only [maxLen]; omega) hn hbase (fun v' w' h2 h3 h4 => hk v' w' h2 (fun A hA => hA.grown h3 hbase (fun k e => ?_)))
  rcases hown.2 with ⟨rfl, _⟩ | ⟨g, cap, cur, rfl, hbg, _⟩
  · cases e
  · simp only [Value.ownBlock, Option.some.injEq] at e
    omega
theorem own_strAt {w : World} {base n : Nat} {p : Option Addr} {c : Nat} {S : Nat → ByteArray} (h : w.ownsRow base 9 1 (.slice p n c) n (strL n S)) (hn : 0 < n) : ∃ g, p = some ⟨g, 0, none⟩ ∧ StrAt w g 0 n S := by
  rcases h.2 with ⟨he, h0⟩ | ⟨g, cap, cur, he, hbg, hg, hnc, hcm, hcs, htake⟩
  · omega
  · injection he with e1 e2 e3
    subst e1
    refine ⟨g, rfl, fun i hi => ?_⟩
    have x0 := h.cells (g := g) rfl i _ (strL_at hi)
    rw [add0] at x0
    rw [Nat.zero_add]
    exact x0
end Go.Proofs.YthgclfhfipfknaaGreat

namespace Go.Proofs.YthgclfhfipfknaaGreat
open Go.ChangeShapes Go.WideShapes Go.ChangeAt Go.RowKit Go.Maps
set_option linter.unusedVariables false

/-- An error, but that there is no such page. -/
def unN (e : Int) : Int := if e = 4 then 0 else e
theorem unlessNone_e (w : World) (E : Int) : Calls Tryz.prog 97 #[.int .i64 E] w fun e w' => e = .returned (.int .i64 (unN E)) ∧ w' = w := by
  unfold unN
  by_cases h : E = 4
  · have h4 : (E == 4) = true := by simpa using h
    rw [if_pos h]
    go_enter Tryz.func97, Tryz.ntmps97
    go_wp2
    go_ret
    exact ⟨rfl, rfl⟩
  · have h4 : (E == 4) = false := by simpa using h
    rw [if_neg h]
    go_enter Tryz.func97, Tryz.ntmps97
    go_wp2
    go_ret
    exact ⟨rfl, rfl⟩
theorem pmayRead_e (w : World) (v : Option Addr) (l : List UInt8) (hl : l.length = 256) (E : Int) (h : PgK w v 0 l E) : Calls Tryz.prog 98 #[.pointer v] w fun e w' => e = .returned (.int .i64 (unN E)) ∧ Below w.heap.size w w' := by
  have HP := hide (page_e w v 0 l E h)
  have HU := hide unlessNone_e
  have hz := zeroP
  clear h
  go_enter Tryz.func98, Tryz.ntmps98
  go_wp2_with (first
    | (go_at_call 102; (with_reducible refine Calls.mono HP.out ?_); rintro e w4 ⟨rfl, hb⟩; have HB4 := hide (below_trans hb (below_alloc w4 (.cells (bc zs) 59))); have HN4 := hide (PAt.new w4 zs); have HS4 := hide hb.size; clear hb)
    | ((with_reducible refine atSt 59 ?_); refine wp_storeP hl zs_length HN4.out _ _ (by rfl) (by rfl) (by rfl) (by rfl) ?_; intro W5 hp hb hk; have HB5 := hide (hb _ _ HB4.out HS4.out); clear hp hb hk)
    | (go_at_call 97; (with_reducible refine Calls.mono (HU.out _ _) ?_); rintro e w5 ⟨rfl, rfl⟩))
  go_ret
  exact ⟨rfl, HB5.out⟩
theorem pmayChange_e (w : World) (v : Option Addr) (E : Int) (R : World → Prop) (h : PtK w v 0 zs E R) : Calls Tryz.prog 36 #[.pointer v] w fun e w' => e = .returned (.int .i64 (unN E)) ∧ R w' := by
  have HP := hide (put_e w v 0 zs zs_length E R h)
  have HU := hide unlessNone_e
  have hz := zeroP
  clear h
  go_enter Tryz.func36, Tryz.ntmps36
  go_wp2_with (first
    | (go_at_call 20; (with_reducible refine Calls.mono HP.out ?_); rintro e w4 ⟨rfl, hb⟩; have HB4 := hide hb; clear hb)
    | (go_at_call 97; (with_reducible refine Calls.mono (HU.out _ _) ?_); rintro e w5 ⟨rfl, rfl⟩))
  go_ret
  exact ⟨rfl, HB4.out⟩
end Go.Proofs.YthgclfhfipfknaaGreat
