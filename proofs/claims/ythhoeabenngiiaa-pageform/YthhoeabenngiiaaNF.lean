/- The document's rows of cells with one more, without one; what it tells of any row. -/
import Derived.Test.YthhoeabenngiiaaNC
namespace Go.Proofs.Ythhoeabenngiiaa
open Go.ChangeShapes Go.WideShapes Go.ChangeAt Go.RowKit
set_option linter.unusedVariables false

/-- Texts of any number. -/
abbrev StrP (w : World) (p : Option Addr) (n : Nat) (S : Nat → ByteArray) : Prop := 0 < n → ∃ g, p = some ⟨g, 0, none⟩ ∧ StrAt w g 0 n S
theorem StrP.later {w w' : World} {p : Option Addr} {n : Nat} {S : Nat → ByteArray} (h : StrP w p n S) (hb : Below w.heap.size w w') : StrP w' p n S := fun h0 => let ⟨g, hg, hs⟩ := h h0; ⟨g, hg, hs.later hb⟩
theorem own_strP {w : World} {base n : Nat} {v : Value} {S : Nat → ByteArray} (h : w.ownsRow base 9 1 v n (strL n S)) : ∃ p c, v = .slice p n c ∧ n ≤ c ∧ StrP w p n S :=
  let ⟨p, c, hv, hc, hs⟩ := own_str h
  ⟨p, c, hv, hc.1, hs⟩
theorem strL_app (S : Nat → ByteArray) (i r : Nat) : strL i S ++ strL r (fun t => S (i + t)) = strL (i + r) S := by
  induction r with
  | zero => simp [strL]
  | succ r ih => rw [strL_snoc, ← List.append_assoc, ih, ← Nat.add_assoc, strL_snoc]
theorem strL_congr {S T : Nat → ByteArray} {n : Nat} (h : ∀ i, i < n → S i = T i) : strL n S = strL n T := by
  unfold strL
  exact List.map_congr_left fun i hi => by rw [h i (List.mem_range.1 hi)]
theorem strL_out (S : Nat → ByteArray) (i r : Nat) : strL i S ++ strL r (fun t => S (i + 1 + t)) = strL (i + r) (outS S i) := by
  rw [← strL_app (outS S i) i r]
  congr 1
  · exact strL_congr fun t ht => by unfold outS; rw [if_pos ht]
  · exact strL_congr fun t ht => by unfold outS; rw [if_neg (by omega), show i + t + 1 = i + 1 + t by omega]
theorem strL_put (S : Nat → ByteArray) (i r : Nat) (c : ByteArray) : strL i S ++ [Value.string c] ++ strL r (fun t => S (i + t)) = strL (i + 1 + r) (putS S i c) := by
  rw [← strL_app (putS S i c) (i + 1) r, strL_snoc]
  congr 1
  · congr 1
    · exact strL_congr fun t ht => by unfold putS; rw [if_pos ht]
    · simp [putS]
  · exact strL_congr fun t ht => by unfold putS; rw [if_neg (by omega), if_neg (by omega), show i + 1 + t - 1 = i + t by omega]
theorem strL_len (n : Nat) (S : Nat → ByteArray) : (strL n S).length = n := by simp [strL]
theorem strL_one {n : Nat} {S : Nat → ByteArray} : ∀ u ∈ strL n S, u.oneCell' = true := by
  intro u hu
  simp only [strL, List.mem_map] at hu
  obtain ⟨i, _, rfl⟩ := hu
  rfl
theorem strs_elem : Try.prog.underlying 25 = some (.slice 9) := by kernel_rfl
theorem size9 (W : World) : (sizeOf 9).run Try.prog W = .ok 1 W := by
  obtain ⟨i, hi, hz, hsz, hby⟩ := str_info
  simp [sizeOf, typeInfo, hi, hsz]
theorem cut_tailS (g len cap n : Nat) (h : n ≤ len) (hc : len ≤ cap) {y : Int} (hy : y = (n : Int)) :
    ∃ x', (∀ W, (Instr.slice 25 (.slice (some ⟨g, 0, none⟩) len cap) (some (.int .i64 y)) none none).run Try.prog W = .ok (.slice (some ⟨g, x', none⟩) (len - n) (cap - n)) W) ∧ (n < cap → x' = n) := by
  subst hy
  have e : (⟨g, 0, none⟩ : Addr).add ((n : Int).toNat * 1) = ⟨g, n, none⟩ := by unfold Addr.add; split <;> simp_all
  refine ⟨if cap = n then 0 else n, fun W => ?_, fun h => if_neg (by omega)⟩
  rw [run_slice_l W 25 (some ⟨g, 0, none⟩) len cap (by rw [show Try.prog.elem 25 = 9 by simp [Program.elem]]; exact strs_elem) .i64 _ (by omega) (by omega), show Try.prog.elem 25 = 9 by simp [Program.elem], size9]
  simp only [Result.andThen, sliced]
  by_cases hcn : cap = n
  · subst hcn
    simp
  · rw [if_neg (by omega), if_neg hcn]
    simp only [Option.map_some, e]
    rfl
theorem news_tail {w : World} {g n cap i x' : Nat} {S : Nat → ByteArray} (h : StrAt w g 0 n S) (hi : i ≤ n) (hc : n ≤ cap) (hx : i < cap → x' = i) : ∀ j u, (strL (n - i) (fun t => S (i + t)))[j]? = some u → w.cell? ((⟨g, x', none⟩ : Addr).add j) = some u := by
  intro j u hu
  have hj : j < n - i := by simpa [strL] using (List.getElem?_eq_some_iff.1 hu).1
  rw [strL_at hj] at hu
  obtain rfl := Option.some.inj hu
  obtain rfl := hx (by omega)
  have e : (⟨g, x', none⟩ : Addr).add j = ⟨g, x' + j, none⟩ := by unfold Addr.add; split <;> simp_all
  rw [e]
  have := h (x' + j) (by omega)
  rwa [Nat.zero_add] at this
theorem news_head {w : World} {g n i : Nat} {S : Nat → ByteArray} (h : StrAt w g 0 n S) (hi : i ≤ n) : ∀ j u, (strL i S)[j]? = some u → w.cell? ((⟨g, 0, none⟩ : Addr).add j) = some u := by
  intro j u hu
  have hj : j < i := by simpa [strL] using (List.getElem?_eq_some_iff.1 hu).1
  rw [strL_at hj] at hu
  obtain rfl := Option.some.inj hu
  rw [add0]
  have := h j (by omega)
  rwa [Nat.zero_add] at this
theorem made_own (w : World) : (w.alloc (.cells #[] 9)).ownsRow w.heap.size 9 1 (.slice (some ⟨w.heap.size, 0, none⟩) 0 0) 0 [] := World.ownsRow_made w #[] 0 (Nat.le_refl _) (by simp [maxLen]) (by simp)
theorem bl_grow {w V V' : World} (h : Below w.heap.size w V) (hk : ∀ A, Below w.heap.size A V → Below w.heap.size A V') : Below w.heap.size w V' := hk _ h
theorem own_size {w : World} {base e size n : Nat} {v : Value} {xs : List Value} (h : w.ownsRow base e size v n xs) (h2 : base ≤ w.heap.size) : True := trivial

set_option maxHeartbeats 2000000 in
set_option maxRecDepth 10000 in
theorem out_walk (g n cap i : Nat) (S : Nat → ByteArray) (hi : i < n) (hc : n ≤ cap) (hn : n ≤ 1000000) (w : World) (h : StrAt w g 0 n S) :
    Calls Try.prog 24 #[.slice (some ⟨g, 0, none⟩) n cap, .int .i64 (i : Int)] w fun e w' => (∃ p, (∃ c, e = .returned (.slice p (n - 1) c) ∧ n - 1 ≤ c) ∧ StrP w' p (n - 1) (outS S i)) ∧ Below w.heap.size w w' := by
  have HO0 := hide (made_own w)
  have HB0 := hide (new_below w (.cells #[] 9) rfl)
  have HN0 := hide (news_head (h.later HB0.out) (show i ≤ n by omega))
  have HSt := hide h
  obtain ⟨x', hcut, hx'⟩ := cut_tailS g n cap (i + 1) (by omega) hc (y := (i : Int) + 1) (by omega)
  have l0 : (0 : Int) ≤ (i : Int) := by omega
  have l1 : (i : Int) ≤ (cap : Int) := by omega
  have e1 : IntKind.i64.wrap ((i : Int) + 1) = (i : Int) + 1 := by rw [IntKind.wrap_i64]; omega
  have HX := hide hx'
  have HC := hide hc
  have HI := hide hi
  have HN1 := hide (show (0 + i) * 16 ≤ 140737488355328 by omega)
  have HN2 := hide (show (i + (n - (i + 1))) * 16 ≤ 140737488355328 by omega)
  have HL := hide (strL_len i S)
  have HL2 := hide (strL_len (n - (i + 1)) (fun t => S (i + 1 + t)))
  clear h hi hc hx'
  go_enter Try.func24, Try.ntmps24
  go_wp2_with (first
    | (at_builtin; refine wp_appS HO0.out (m := i) (news := strL i S) (by rw [HL.out, Nat.mul_one]) HN0.out strL_one HN1.out HB0.out.size _ _ (by rfl) (by rfl) (by rfl) (by rfl) ?_; intro v1 w1 ho hiff hk; rw [Nat.zero_add, List.nil_append] at ho; have HB1 := hide (bl_grow HB0.out hk); have HO1 := hide ho; clear ho hk hiff HN0 HO0 HB0)
    | (at_builtin; refine wp_appS HO1.out (m := n - (i + 1)) (news := strL (n - (i + 1)) (fun t => S (i + 1 + t))) (by rw [HL2.out, Nat.mul_one]) (news_tail (HSt.out.later HB1.out) (Nat.succ_le_of_lt HI.out) HC.out HX.out) strL_one HN2.out HB1.out.size _ _ (by rfl) (by rfl) (by rfl) (by rfl) ?_; intro v2 w2 ho hiff hk; have HB2 := hide (bl_grow HB1.out hk); rw [strL_out] at ho; have HO2 := hide ho; clear ho hk hiff))
  have hlen : i + (n - (i + 1)) = n - 1 := by have := HI.out; omega
  have ho := HO2.out
  rw [hlen] at ho
  obtain ⟨p, c, rfl, hpc, hs⟩ := own_strP ho
  go_ret
  exact ⟨⟨p, ⟨c, rfl, hpc⟩, hs⟩, HB2.out⟩

set_option maxHeartbeats 2000000 in
set_option maxRecDepth 10000 in
theorem put_some (g n cap i : Nat) (S : Nat → ByteArray) (d : ByteArray) (hi : i ≤ n) (hc : n ≤ cap) (hn : n ≤ 1000000) (w : World) (h : StrAt w g 0 n S) :
    Calls Try.prog 25 #[.slice (some ⟨g, 0, none⟩) n cap, .int .i64 (i : Int), .string d] w fun e w' => (∃ p, (∃ c, e = .returned (.slice p (n + 1) c) ∧ n + 1 ≤ c) ∧ StrP w' p (n + 1) (putS S i d)) ∧ Below w.heap.size w w' := by
  have HO0 := hide (made_own w)
  have HB0 := hide (new_below w (.cells #[] 9) rfl)
  have HN0 := hide (news_head (h.later HB0.out) hi)
  have HSt := hide h
  obtain ⟨x', hcut, hx'⟩ := cut_tailS g n cap i hi hc (y := (i : Int)) rfl
  have l0 : (0 : Int) ≤ (i : Int) := by omega
  have l1 : (i : Int) ≤ (cap : Int) := by omega
  have HX := hide hx'
  have HC := hide hc
  have HI := hide hi
  have HN1 := hide (show (0 + i) * 16 ≤ 140737488355328 by omega)
  have HN2 := hide (show (i + 1) * 16 ≤ 140737488355328 by omega)
  have HN3 := hide (show (i + 1 + (n - i)) * 16 ≤ 140737488355328 by omega)
  have HL := hide (strL_len i S)
  have HL2 := hide (strL_len (n - i) (fun t => S (i + t)))
  clear h hi hc hx'
  go_enter Try.func25, Try.ntmps25
  go_wp2_with (first
    | (at_builtin; refine wp_appS HO0.out (m := i) (news := strL i S) (by rw [HL.out, Nat.mul_one]) HN0.out strL_one HN1.out HB0.out.size _ _ (by rfl) (by rfl) (by rfl) (by rfl) ?_; intro v1 w1 ho hiff hk; rw [Nat.zero_add, List.nil_append] at ho; have HB1 := hide (bl_grow HB0.out hk); have HO1 := hide ho; clear ho hk hiff HN0 HO0 HB0)
    | (at_builtin; refine wp_appS (own_alloc HO1.out _) (m := 1) (news := [.string d]) rfl (one_cell w1 _ _) (one_str _) HN2.out (bl_alx HB1.out _).size _ _ (by rfl) (by rfl) (by rfl) (by rfl) ?_; intro v2 w2 ho hiff hk; have HB2 := hide (bl_grow (bl_alx HB1.out _) hk); have HO2 := hide ho; clear ho hk hiff HO1 HB1)
    | (at_builtin; refine wp_appS HO2.out (m := n - i) (news := strL (n - i) (fun t => S (i + t))) (by rw [HL2.out, Nat.mul_one]) (news_tail (HSt.out.later HB2.out) HI.out HC.out HX.out) strL_one HN3.out HB2.out.size _ _ (by rfl) (by rfl) (by rfl) (by rfl) ?_; intro v3 w3 ho hiff hk; have HB3 := hide (bl_grow HB2.out hk); rw [strL_put] at ho; have HO3 := hide ho; clear ho hk hiff))
  have hlen : i + 1 + (n - i) = n + 1 := by have := HI.out; omega
  have ho := HO3.out
  rw [hlen] at ho
  obtain ⟨p, c, rfl, hpc, hs⟩ := own_strP ho
  go_ret
  exact ⟨⟨p, ⟨c, rfl, hpc⟩, hs⟩, HB3.out⟩

theorem put_one (S : Nat → ByteArray) (d : ByteArray) : ([] : List Value) ++ [Value.string d] = strL (0 + 1) (putS S 0 d) := by simp [strL, putS]
set_option maxHeartbeats 2000000 in
set_option maxRecDepth 10000 in
theorem put_none (p : Option Addr) (cap : Nat) (hp : p = none → cap = 0) (S : Nat → ByteArray) (d : ByteArray) (w : World) :
    Calls Try.prog 25 #[.slice p 0 cap, .int .i64 0, .string d] w fun e w' => (∃ p, (∃ c, e = .returned (.slice p (0 + 1) c) ∧ 0 + 1 ≤ c) ∧ StrP w' p (0 + 1) (putS S 0 d)) ∧ Below w.heap.size w w' := by
  have HO0 := hide (made_own w)
  have HB0 := hide (new_below w (.cells #[] 9) rfl)
  have HN2 := hide (show (0 + 1) * 16 ≤ 140737488355328 by omega)
  cases p with
  | none =>
    obtain rfl := hp rfl
    clear hp
    go_enter Try.func25, Try.ntmps25
    go_upto_region 2 with fail
    go_name_world W hW
    rw [hW] at HO0 HB0
    clear hW
    go_wp2_with (first
      | (at_builtin; refine wp_appS (own_alloc HO0.out _) (m := 1) (news := [.string d]) rfl (one_cell W _ _) (one_str _) HN2.out (bl_alx HB0.out _).size _ _ (by rfl) (by rfl) (by rfl) (by rfl) ?_; intro v2 w2 ho hiff hk; have HB2 := hide (bl_grow (bl_alx HB0.out _) hk); rw [put_one S d] at ho; obtain ⟨p2, c2, rfl, hc2, hs2⟩ := own_strP ho; have HS2 := hide hs2; obtain ⟨g2, rfl, hst2⟩ := hs2 (Nat.succ_pos 0); clear ho hk hiff hs2 hst2))

    go_ret
    exact ⟨⟨_, ⟨c2, rfl, hc2⟩, HS2.out⟩, HB2.out⟩
  | some a =>
    clear hp
    go_enter Try.func25, Try.ntmps25
    go_upto_region 2 with fail
    go_name_world W hW
    rw [hW] at HO0 HB0
    clear hW
    go_wp2_with (first
      | (at_builtin; refine wp_appS (own_alloc HO0.out _) (m := 1) (news := [.string d]) rfl (one_cell W _ _) (one_str _) HN2.out (bl_alx HB0.out _).size _ _ (by rfl) (by rfl) (by rfl) (by rfl) ?_; intro v2 w2 ho hiff hk; have HB2 := hide (bl_grow (bl_alx HB0.out _) hk); rw [put_one S d] at ho; obtain ⟨p2, c2, rfl, hc2, hs2⟩ := own_strP ho; have HS2 := hide hs2; obtain ⟨g2, rfl, hst2⟩ := hs2 (Nat.succ_pos 0); clear ho hk hiff hs2 hst2))

    go_ret
    exact ⟨⟨_, ⟨c2, rfl, hc2⟩, HS2.out⟩, HB2.out⟩
/-- What Told answers of any row. -/
theorem told_any (is : Bool) (k L : Nat) (hk : k < 256) (hL : L < 4294967296) (p : Option Addr) (n cap : Nat) (S : Nat → ByteArray) (hs : n + (cat S n).length ≤ 140737488355328) (w : World) (h : StrP w p n S) :
    Calls Try.prog 23 #[bodyV is (k : Int) (L : Int) (.slice p n cap)] w fun e w' => (∃ l, l.length = 256 ∧ ∃ x, ToldIs k L n S l x ∧ e = .returned (.tuple #[.agg (bc l), .int .i64 x])) ∧ Below w.heap.size w w' := by
  by_cases h0 : n = 0
  · subst h0
    refine (told_nil is k L hk hL p cap w).mono fun e w' ⟨he, hb⟩ => ⟨⟨_, pageL_length (by simp [cat]), 0, ?_, he⟩, hb⟩
    unfold ToldIs
    rw [if_pos (by simp [cat])]
    exact ⟨rfl, rfl⟩
  · obtain ⟨g, rfl, hst⟩ := h (by omega)
    refine (told_walk is k L hk hL g 0 n cap S hs w hst).mono fun e w' ⟨⟨l, x, hl, ht, he⟩, hb⟩ => ⟨⟨l, hl, x, ht, he⟩, hb⟩
theorem ToldIs.same {k L n : Nat} {S : Nat → ByteArray} {l l' : List UInt8} {x x' : Int} (h : ToldIs k L n S l x) (h' : ToldIs k L n S l' x') : l = l' ∧ x = x' := by
  unfold ToldIs at h h'
  by_cases hc : n + (cat S n).length ≤ 250
  · rw [if_pos hc] at h h'
    exact ⟨h.1.trans h'.1.symm, h.2.trans h'.2.symm⟩
  · rw [if_neg hc] at h h'
    exact ⟨h.1.trans h'.1.symm, h.2.trans h'.2.symm⟩
end Go.Proofs.Ythhoeabenngiiaa
