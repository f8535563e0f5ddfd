/- New of no cells; PageForm's facts. -/
import Derived.Test.YthhoeabenngiiaaOF
import Derived.Test.YthhoeabenngiiaaNM
namespace Go.Proofs.Ythhoeabenngiiaa
open Go.ChangeShapes Go.WideShapes Go.ChangeAt Go.RowKit
set_option linter.unusedVariables false

set_option maxHeartbeats 1000000 in
theorem checkCells_none (p : Option Addr) (cap : Nat) (w : World) :
    Calls Try.prog 35 #[.slice p 0 cap] w fun e w' => e = .returned (.int .i64 0) ∧ w = w' := by
  go_enter Try.func35, Try.ntmps35
  go_wp2
  refine wp_loop_rounds 1 ?_
  rw [rounds_succ]
  go_wp2
  go_ret
  exact ⟨rfl, rfl⟩

set_option maxHeartbeats 2000000 in
theorem new_nil (k L : Nat) (hk : ¬ 5 < k) (hL : L < 4294967296) (p : Option Addr) (cap : Nat) (S : Nat → ByteArray) (w : World) :
    Calls Try.prog 18 #[.int .u8 k, .int .u32 (L : Int), .slice p 0 cap] w fun e w' => (∃ l x, l.length = 256 ∧ NewIs k L 0 S l x ∧ e = .returned (.tuple #[.agg (bc l), .int .i64 x])) ∧ Below w.heap.size w w' := by
  obtain ⟨n, hn0⟩ : ∃ n, n = 0 := ⟨0, rfl⟩
  have hE : cErr n S = 0 := cErr_of (fun i hi => by omega)
  have hn : n ≤ 1000000 := by omega
  have H60 := hide (fun i hi => (cErr_zero hE i hi).2)
  have HZ := hide (PAt.new w zs)
  have HB := hide (new_below w (.cells (bc zs) 23) rfl)
  have HC := hide (checkCells_none p cap (w.alloc (.cells (bc zs) 23)))
  have HE := hide hE
  have hz := zero_page.1
  have l1 : ¬ (5 : Int) < (k : Int) := by omega
  obtain ⟨i, hi, hz0, hsz, hby⟩ := run_info
  obtain ⟨W1, hmk, hown, hgr⟩ := run_make_own (P := Try.prog) (w.alloc (.cells (bc zs) 23)) (w.alloc (.cells (bc zs) 23)).heap.size 70 64 i _ 2 Try.underlying70 hi hz0 hsz .i64 .i64 n (by rw [hby]; omega) (by simp only [maxLen]; omega) (Nat.le_refl _)
  have hs1 : (w.alloc (.cells (bc zs) 23)).heap.size = w.heap.size + 1 := by simp
  have hG : Below (w.alloc (.cells (bc zs) 23)).heap.size (w.alloc (.cells (bc zs) 23)) W1 := (Below.refl _ _).grown hgr (Nat.le_refl _) (fun k e => by cases e)
  rw [hs1] at hmk hown hG
  have HO := hide hown
  have HG := hide hG
  have HHS := hide hs1
  have HLL := hide hL
  subst hn0
  simp only [Int.natCast_zero] at hmk
  clear hE hi hz0 hsz hby hown hgr hG hs1 hL
  go_enter Try.func18, Try.ntmps18
  go_wp2_with (first
    | (go_at_call 35; with_reducible refine Calls.mono HC.out ?_; rintro e w1 ⟨rfl, rfl⟩))
  go_loopw [26, 9] (fun iv rv wr => ∃ j : Nat, j ≤ 0 ∧ iv = .int .i64 (j : Int) ∧ rv = .slice (some ⟨w.heap.size + 1, 0,  none⟩) j 0 ∧ wr.ownsRow (w.heap.size + 1) 64 2 (.slice (some ⟨w.heap.size + 1, 0,  none⟩) j 0) j (rcl S j) ∧ Below (w.heap.size + 1) (w.alloc (.cells (bc zs) 23)) wr) (fun iv _ _ => 0 - (intOf iv).toNat)
  case atStart => exact ⟨0, Nat.zero_le _, rfl, rfl, HO.out, HG.out⟩
  case round =>
    obtain ⟨j, hj, rfl, rfl, hown, hbel⟩ := hrel
    have HOj := hide hown
    have HBj := hide hbel
    have HBj' : Hid (Below (w.alloc (.cells (bc zs) 23)).heap.size (w.alloc (.cells (bc zs) 23)) wr) := by rw [HHS.out]; exact hbel
    clear hown hbel
    · obtain rfl : j = 0 := by omega
      obtain ⟨l, hl, x, ⟨hx1, hx2⟩, hj⟩ := joined_new k L (by omega) HLL.out 0 (w.heap.size + 1) 0 S (by omega) H60.out wr (runs_of_own HOj.out)
      have HL := hide hl
      have HX : Hid (NewIs k L 0 S l x) := by
        show NewIs k L 0 S l x
        unfold NewIs
        rw [if_neg hk, if_neg (by rw [HE.out]; simp)]
        split
        · rename_i h; exact hx1 h
        · rename_i h; exact hx2 (by omega)
      have HJ := hide (hj wr (runs_of_own HOj.out))
      have HZj := hide (HZ.out.later HBj'.out)
      have HBn := hide (below_trans HB.out HBj'.out)
      clear hx1 hx2 hj hl
      go_wp2_with (first
        | (go_at_call 37; with_reducible refine Calls.mono HJ.out ?_; rintro e w2 ⟨rfl, hb⟩; have HZ2 := hide (HZj.out.later hb); have HB2 := hide (below_trans HBn.out hb); clear hb)
        | (refine wp_storeP HL.out zs_length HZ2.out _ _ (by rfl) (by rfl) (by rfl) (by rfl) ?_; intro W3 hp hb hk; have HP3 := hide hp; have HB3 := hide (hb _ _ HB2.out (by omega)); clear hp hb hk)
        | (exact ret_page2 Try.results18 rfl rfl HL.out HP3.out ⟨⟨l, x, HL.out, HX.out, rfl⟩, HB3.out⟩))

theorem new_any (l : List UInt8) (hl : l.length = 256) (ho : okB l) (V : World) (p : Option Addr) (cc : Nat) (h : StrP V p (byt l 1) (cellS l)) :
    Calls Try.prog 18 #[.int .u8 (byt l 0 : Int), .int .u32 (lnk l : Int), .slice p (byt l 1) cc] V fun e w' => e = .returned (.tuple #[.agg (bc l), .int .i64 0]) ∧ Below V.heap.size V w' := by
  have hk : ¬ 5 < byt l 0 := by have := ho.1; omega
  have hL := (ok_small hl ho).2.2.2
  have hn := (ok_small hl ho).1
  have hE := cErr_of (ok_sizes hl ho)
  have key : ∀ l' x, NewIs (byt l 0) (lnk l) (byt l 1) (cellS l) l' x → l' = l ∧ x = 0 := fun l' x hx => by
    unfold NewIs at hx
    rw [if_neg hk, if_neg (by rw [hE]; simp), if_pos (ok_room hl ho), page_is hl ho] at hx
    exact hx
  by_cases h0 : byt l 1 = 0
  · have := new_nil (byt l 0) (lnk l) hk hL p cc (cellS l) V
    rw [h0] at key ⊢
    exact this.mono fun e w' ⟨⟨l', x, _, hx, he⟩, hb⟩ => by
      obtain ⟨rfl, rfl⟩ := key l' x hx
      exact ⟨he, hb⟩
  · obtain ⟨g, rfl, hst⟩ := h (by omega)
    exact (new_ok (byt l 0) (lnk l) hk hL g 0 (byt l 1) cc (cellS l) (by omega) hE V hst).mono fun e w' ⟨⟨l', x, _, hx, he⟩, hb⟩ => by
      obtain ⟨rfl, rfl⟩ := key l' x hx
      exact ⟨he, hb⟩

theorem put_sizes {S : Nat → ByteArray} {n m : Nat} {c : ByteArray} (h : ∀ i, i < n → (S i).size ≠ 0 ∧ (S i).size ≤ 60) (hc : c.size ≠ 0 ∧ c.size ≤ 60) (hm : m ≤ n) : ∀ i, i < n + 1 → (putS S m c i).size ≠ 0 ∧ (putS S m c i).size ≤ 60 := by
  intro i hi
  unfold putS
  split
  · exact h i (by omega)
  · split
    · exact hc
    · exact h (i - 1) (by omega)
theorem out_put (S : Nat → ByteArray) (m : Nat) (c : ByteArray) (t : Nat) : outS (putS S m c) m t = S t := by
  unfold outS putS
  by_cases h : t < m
  · rw [if_pos h, if_pos h]
  · rw [if_neg h, if_neg (by omega), if_neg (by omega), Nat.add_sub_cancel]
theorem cat_put_len (S : Nat → ByteArray) {n m : Nat} (c : ByteArray) (hm : m ≤ n) : (cat (putS S m c) (n + 1)).length = (cat S n).length + c.size := by
  obtain ⟨r, rfl⟩ : ∃ r, n = m + r := ⟨n - m, by omega⟩
  have h1 : cat (putS S m c) (m + (1 + r)) = cat S m ++ (c.data.toList ++ cat (fun t => S (m + t)) r) := cat_put S m r c (fun s => s)
  have h2 := cat_add S m r
  rw [show m + r + 1 = m + (1 + r) by omega, h1, h2]
  simp only [List.length_append, Array.length_toList]
  have : c.data.size = c.size := rfl
  omega
theorem two_parts (S T U : Nat → ByteArray) (m n : Nat) (hT : ∀ t, t < m → T t = S t) (hU : ∀ t, t < n - m → U t = S (m + t)) (hm : m ≤ n) : ∀ t, t < n → twoS T m U t = S t := by
  intro t ht
  unfold twoS
  split
  · exact hT t (by assumption)
  · rw [hU (t - m) (by omega), show m + (t - m) = t by omega]

/-- What is put in and taken out again. -/
theorem in_out {l : List UInt8} (hl : l.length = 256) {i : Int} {c : ByteArray} (h : inE l i c = 0) (ho : okB l) :
    c.size ≠ 0 ∧ c.size ≤ 60 ∧ (0 ≤ i ∧ i ≤ (byt l 1 : Int)) ∧ okB (inL l i c) ∧ byt (inL l i c) 1 = byt l 1 + 1 ∧ cellS (inL l i c) i.toNat = c ∧ outL (inL l i c) i = l ∧ outE (inL l i c) i = 0 ∧ (roomV (inL l i c) : Int) = (roomV l : Int) - 1 - (c.size : Int) := by
  unfold inE at h
  rw [if_pos ho] at h
  by_cases hE : cErr 1 (fun _ => c) = 0
  · rw [if_neg (by rw [hE]; simp)] at h
    have hc := cErr_zero hE 0 (by omega)
    by_cases hi : i < 0 ∨ (byt l 1 : Int) < i
    · rw [if_pos hi] at h; exact absurd h (by decide)
    · rw [if_neg hi] at h
      obtain ⟨m, rfl⟩ : ∃ m : Nat, i = (m : Int) := ⟨i.toNat, by omega⟩
      have hm : m ≤ byt l 1 := by omega
      rw [Int.toNat_natCast] at h ⊢
      have hr : byt l 1 + 1 + (cat (putS (cellS l) m c) (byt l 1 + 1)).length ≤ 250 := by
        unfold te at h
        by_cases hq : byt l 1 + 1 + (cat (putS (cellS l) m c) (byt l 1 + 1)).length ≤ 250
        · exact hq
        · rw [if_neg hq] at h; exact absurd h (by decide)
      have hin : inL l (m : Int) c = pageL (byt l 0) (lnk l) (byt l 1 + 1) (putS (cellS l) m c) := by
        unfold inL tl
        rw [if_pos ⟨ho, hE, hi⟩, Int.toNat_natCast, if_pos hr]
      obtain ⟨f1, f2, f3, f4, f5, f6⟩ := page_facts (byt l 0) (lnk l) (byt l 1 + 1) (putS (cellS l) m c) ho.1 (ok_small hl ho).2.2.2 (put_sizes (ok_sizes hl ho) hc hm) hr
      rw [hin]
      have hroom := ok_room hl ho
      have hlen := cat_put_len (cellS l) c hm
      have hS : ∀ t, t < byt l 1 → outS (cellS (pageL (byt l 0) (lnk l) (byt l 1 + 1) (putS (cellS l) m c))) m t = cellS l t := fun t ht => by
        rw [← out_put (cellS l) m c t]
        unfold outS
        split
        · exact f5 t (by omega)
        · exact f5 (t + 1) (by omega)
      have hcat : cat (outS (cellS (pageL (byt l 0) (lnk l) (byt l 1 + 1) (putS (cellS l) m c))) m) (byt l 1) = cat (cellS l) (byt l 1) := cat_congr hS
      refine ⟨hc.1, hc.2, by omega, f1, f3, ?_, ?_, ?_, ?_⟩
      · rw [f5 m (by omega)]
        unfold putS
        rw [if_neg (by omega), if_pos rfl]
      · unfold outL tl
        rw [if_pos ⟨f1, by rw [f3]; omega⟩, f2, f3, f4, Int.toNat_natCast, Nat.add_sub_cancel, hcat, if_pos hroom, pageL_congr hS, page_is hl ho]
      · unfold outE te
        rw [if_pos f1, if_neg (by rw [f3]; omega), f3, Int.toNat_natCast, Nat.add_sub_cancel, hcat, if_pos hroom]
      · have hrl : roomV l = 250 - (byt l 1 + (cat (cellS l) (byt l 1)).length) := by
          have := (page_facts (byt l 0) (lnk l) (byt l 1) (cellS l) ho.1 (ok_small hl ho).2.2.2 (ok_sizes hl ho) hroom).2.2.2.2.2
          rw [page_is hl ho] at this
          exact this
        rw [f6, hrl]
        omega
  · rw [if_pos hE] at h; exact absurd h hE

/-- What is cut and joined again. -/
theorem cut_join {l : List UInt8} (hl : l.length = 256) {n : Int} (h : cuE l n = 0) (ho : okB l) :
    joL (cuA l n) (cuB l n) = l ∧ joE (cuA l n) (cuB l n) = 0 ∧ okB (cuA l n) ∧ okB (cuB l n) ∧ (byt (cuA l n) 1 : Int) = n := by
  unfold cuE at h
  rw [if_pos ho] at h
  by_cases hi : n < 0 ∨ (byt l 1 : Int) < n
  · rw [if_pos hi] at h; exact absurd h (by decide)
  · obtain ⟨m, rfl⟩ : ∃ m : Nat, n = (m : Int) := ⟨n.toNat, by omega⟩
    have hm : m ≤ byt l 1 := by omega
    have hroom := ok_room hl ho
    have hsz := ok_sizes hl ho
    have hcat := cat_add (cellS l) m (byt l 1 - m)
    rw [show m + (byt l 1 - m) = byt l 1 by omega] at hcat
    have hlen : (cat (cellS l) m).length + (cat (fun t => cellS l (m + t)) (byt l 1 - m)).length = (cat (cellS l) (byt l 1)).length := by rw [hcat, List.length_append]
    have ha : cuA l (m : Int) = pageL (byt l 0) 0 m (cellS l) := by
      unfold cuA tl
      rw [if_pos ⟨ho, hi⟩, Int.toNat_natCast, if_pos (by omega)]
    have hb : cuB l (m : Int) = pageL (byt l 0) (lnk l) (byt l 1 - m) (fun t => cellS l (m + t)) := by
      unfold cuB tl
      rw [if_pos ⟨ho, hi⟩, Int.toNat_natCast, if_pos (by omega)]
    obtain ⟨a1, a2, a3, a4, a5, a6⟩ := page_facts (byt l 0) 0 m (cellS l) ho.1 (by omega) (fun i hi => hsz i (by omega)) (by omega)
    obtain ⟨b1, b2, b3, b4, b5, b6⟩ := page_facts (byt l 0) (lnk l) (byt l 1 - m) (fun t => cellS l (m + t)) ho.1 (ok_small hl ho).2.2.2 (fun i hi => hsz (m + i) (by omega)) (by omega)
    rw [← ha] at a1 a2 a3 a4 a5
    rw [← hb] at b1 b2 b3 b4 b5
    have hS := two_parts (cellS l) (cellS (cuA l (m : Int))) (cellS (cuB l (m : Int))) m (byt l 1) a5 b5 hm
    have hn : byt (cuA l (m : Int)) 1 + byt (cuB l (m : Int)) 1 = byt l 1 := by omega
    have hS' : ∀ t, t < byt l 1 → twoS (cellS (cuA l (m : Int))) (byt (cuA l (m : Int)) 1) (cellS (cuB l (m : Int))) t = cellS l t := by rw [a3]; exact hS
    have hc2 : cat (twoS (cellS (cuA l (m : Int))) (byt (cuA l (m : Int)) 1) (cellS (cuB l (m : Int)))) (byt l 1) = cat (cellS l) (byt l 1) := cat_congr hS'
    refine ⟨?_, ?_, a1, b1, by rw [a3]⟩
    · unfold joL tl
      rw [if_pos ⟨⟨a1, b1⟩, by rw [a2, b2]⟩, hn, hc2, if_pos hroom, a2, b4, pageL_congr hS', page_is hl ho]
    · unfold joE te
      rw [if_pos ⟨a1, b1⟩, if_pos (by rw [a2, b2]), hn, hc2, if_pos hroom]
end Go.Proofs.Ythhoeabenngiiaa
