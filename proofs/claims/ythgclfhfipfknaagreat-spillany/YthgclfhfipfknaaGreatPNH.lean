/- The walk of SpillAny. -/
import Derived.Test.YthgclfhfipfknaaGreatPNG
import Derived.Test.YthgclfhfipfknaaGreatRWA
import Derived.Test.YthgclfhfipfknaaGreatRWB
namespace Go.Proofs.YthgclfhfipfknaaGreat
open Go.ChangeShapes Go.WideShapes Go.ChangeAt Go.RowKit Go.Maps
set_option linter.unusedVariables false

def pgs (Q : Nat → List UInt8) : Nat → Nat → List UInt8
  | 0 => zPg
  | i + 1 => upP (pgs Q i) (i + 1) (Q i)
theorem put_next {sv : Value} (w : World) (t pm k : Nat) {P : Nat → List UInt8} {K : Nat} (h : Tr sv w t pm k P K true) (hk : k < 4096) (hK : K ≤ 100000) (l : List UInt8) (hl : l.length = 256) : Calls Tryz.prog 20 #[.pointer (some ⟨t, 0, none⟩), .int .i64 ((k : Int) + 1), .agg (bcl l).toArray] w fun e w' => e = .returned (.int .i64 0) ∧ Tr sv w' t pm (k + 1) (upP P (k + 1) l) (K + 1) true ∧ Only [t, pm] w w' := by
  have := put_e w _ ((k + 1 : Nat) : Int) l hl 0 _ (.inn (k := k + 1) h (by omega) (by omega) (by omega) hK)
  rw [show max k (k + 1) = k + 1 by omega] at this
  exact this
theorem own_int {w : World} {base n c : Nat} {p : Option Addr} {G : List Nat} (h : w.ownsRow base 3 1 (.slice p n c) n (inL G)) (hn : n = G.length) (h0 : 0 < n) : ∃ g, p = some ⟨g, 0, none⟩ ∧ IntAt w g G := by
  rcases h.2 with ⟨_, e⟩ | ⟨g, cap, cur, hv, _, hgg, _, _, _, htk⟩
  · omega
  · injection hv with e1 _ _
    exact ⟨g, e1, cur, hgg, by rw [Nat.mul_one, hn] at htk; exact htk⟩
theorem nil_sv (w : World) (base pm : Nat) : Sv w base (.slice none 0 0) [] pm := ⟨World.ownsRow_nil _ _ _ _, fun s hs => by cases hs⟩
set_option maxRecDepth 20000 in
set_option maxHeartbeats 8000000 in
theorem pany_core (w : World) (p : Option Addr) (len cap : Nat) (Q : Nat → List UInt8) (s : ByteArray) (hp : PgP w p len Q) (hlen : len ≤ 40) (hs : s.size ≤ 2000) (R : Option (List UInt8 × List Nat)) (hR : foundR (pgs Q len) len s = R) :
    Calls Tryz.prog 5 #[.slice p len cap, .string s] w fun e w' => e = .returned (.bool true) ∧ Below w.heap.size w w' := by
  have HAw := hide (fun V => pawake_e V)
  have l1 : ¬ (40 : Int) < (len : Int) := by omega
  have l1s : ¬ (2000 : Int) < (s.size : Int) := by omega
  have HO := hide (plopen_e w)
  have HPg := hide hp
  have HLn := hide hlen
  have HGt := hide (fun V t pm (h : Tr (.slice none 0 0) V t pm len (pgs Q len) len true) => pget_any V (some ⟨t, 0, none⟩) s (rdSz s) R (by rw [← hR]; exact find_any V t pm len h s (by omega)))
  have HPs := hide (fun V t pm (h : Tr (.slice none 0 0) V t pm len (pgs Q len) len true) => ppages_any V (some ⟨t, 0, none⟩) s (rdSz s) R (by rw [← hR]; exact find_any V t pm len h s (by omega)))
  have HDp := hide (fun V t pm (h : Tr (.slice none 0 0) V t pm len (pgs Q len) len true) (h0 : w.heap.size ≤ t ∧ w.heap.size ≤ pm ∧ w.heap.size ≤ V.heap.size) => drop_any V w.heap.size t pm len V.heap.size h (nil_sv V V.heap.size pm) (by omega) s (by omega) ⟨h0.1, h0.2.1, h0.2.2, Nat.le_refl _⟩)
  rw [hR] at HDp
  have HFf := hide (fun d G (e : R = some (d, G)) => found_facts (P := pgs Q len) (m := len) (s := s) (d := d) (G := G) (hR.trans e))
  generalize rdSz s = z at *
  clear hp hlen hR
  go_enter Tryz.func5, Tryz.ntmps5
  go_wp2_with (first
    | (go_at_call 8; (with_reducible refine Calls.mono HO.out ?_); rintro e w1 ⟨t, rfl, pm, h1, h2, h3, h4⟩; have HT1 := hide h1; have HB1 := hide h2; have HP1 := hide (And.intro h3 h4); clear h1 h2 h3 h4))
  go_loopw [7] (fun kv wr => ∃ k : Nat, kv = .int .i64 (k : Int) ∧ k ≤ len ∧ Tr (.slice none 0 0) wr t pm k (pgs Q k) k true ∧ Below w.heap.size w wr) (fun kv _ => len - (intOf kv).toNat)
  case atStart => exact ⟨0, rfl, by omega, HT1.out, HB1.out⟩
  case round =>
    obtain ⟨k, rfl, hk, ht, hbw⟩ := hrel
    by_cases hlt : k < len
    · have l2 : (k : Int) < (len : Int) := by omega
      have l3 : (0 : Int) ≤ (k : Int) := by omega
      obtain ⟨b, o, rfl, hc⟩ := HPg.out (by omega)
      have hQ := (hc k hlt).1
      have HR := hide (fun j v (hj : (bcl (Q k))[j]? = some v) => cell_later1 hbw ((hc k hlt).2 j v hj))
      have hwk : IntKind.i64.wrap ((k : Int) + 1) = ((k + 1 : Nat) : Int) := by rw [IntKind.wrap_i64]; have := HLn.out; omega
      have HPt := hide (put_next wr t pm k ht (by have := HLn.out; omega) (by have := HLn.out; omega) (Q k) hQ)
      have HBw := hide hbw
      have HQl : Hid ((Tryz.prog.info? 59).map (·.size) = some (bcl (Q k)).length) := hide (by rw [page_size hQ]; simp [bc])
      clear hc ht hbw hQ
      go_wp2_with (first
        | ((with_reducible refine atLd 59 ?_); refine wpList_load_mid rfl 59 _ rfl b (o + k * 256) (by rfl) (bcl (Q k)) _ HR.out page_arr rfl HQl.out ?_)
        | (go_at_call 20; (with_reducible refine Calls.mono HPt.out ?_); rintro e w5 ⟨rfl, ht, ho⟩; have HT5 := hide ht; have HB5 := hide (below_only HBw.out ho (two_in HP1.out.1 HP1.out.2)); clear ht ho))
      go_roundw
      case rel => exact ⟨k + 1, rfl, by omega, HT5.out, HB5.out⟩
      case measure => simp [intOf]; omega
    · have l2 : ¬ (k : Int) < (len : Int) := by omega
      obtain rfl : k = len := by omega
      have HT4 := hide ht
      have HB4 := hide hbw
      clear ht hbw hlt hk
      cases R with
      | none =>
        have z0 : ¬ (s.size : Int) < 0 := by omega
        go_wp2_with (first
          | (go_at_call 19; (with_reducible refine Calls.mono (HGt.out _ t pm HT4.out) ?_); rintro e w5 ⟨rfl, hb⟩; have HT5 := hide (HT4.out.later hb); have HB5 := hide (below_trans HB4.out hb); clear hb)
          | (go_at_call 21; (with_reducible refine Calls.mono (HPs.out _ t pm HT5.out) ?_); rintro e w6 ⟨rfl, hb⟩; have HT6 := hide (HT5.out.later hb); have HB6 := hide (below_trans HB5.out hb); clear hb))
        go_loopw [13] (fun kv wr => kv = .int .i64 0 ∧ wr = w6) (fun _ _ => 0)
        case atStart => exact ⟨rfl, rfl⟩
        case round =>
          obtain ⟨rfl, rfl⟩ := hrel
          go_wp2_with (first
            | (go_at_call 9; (with_reducible refine Calls.mono (HDp.out _ t pm HT6.out ⟨HP1.out.1, HP1.out.2, HB6.out.size⟩) ?_); rintro e w7 ⟨E, rfl, hE, hn, hb⟩; obtain rfl := hn rfl; have HB7 := hide (HB6.out.trans hb); clear hb hE hn)
            | (go_at_call 7; (with_reducible refine Calls.mono (HAw.out _) ?_); rintro e w8 ⟨rfl, hb⟩; have HB8 := hide (below_trans HB7.out hb); clear hb))
          go_ret
          exact ⟨rfl, HB8.out⟩
      | some r =>
        obtain ⟨d, G⟩ := r
        obtain ⟨f1, f2, f3, f4⟩ := HFf.out d G rfl
        have z0 : ¬ (s.size : Int) < (z : Int) := by omega
        have hds : ((⟨d.toArray⟩ : ByteArray).size : Int) = (d.length : Int) := by simp [ByteArray.size]
        have hd4 : ¬ (4000 : Int) < ((⟨d.toArray⟩ : ByteArray).size : Int) := by omega
        have hd5 : ¬ (4000 : Int) < (d.length : Int) := by omega
        have HF1 := hide f1
        clear hds f1
        go_wp2_with (first
          | (go_at_call 19; (with_reducible refine Calls.mono (HGt.out _ t pm HT4.out) ?_); rintro e w5 ⟨rfl, hb⟩; have HT5 := hide (HT4.out.later hb); have HB5 := hide (below_trans HB4.out hb); clear hb)
          | (go_at_call 21; (with_reducible refine Calls.mono (HPs.out _ t pm HT5.out) ?_); rintro e w6 ⟨p6, c6, rfl, ho, hb⟩; have HT6 := hide (HT5.out.later hb); have HB6 := hide (below_trans HB5.out hb); have HO6 := hide ho; clear hb ho))
        go_loopw [13] (fun kv wr => ∃ j : Nat, kv = .int .i64 (j : Int) ∧ j ≤ G.length ∧ wr = w6) (fun kv _ => G.length - (intOf kv).toNat)
        case atStart => exact ⟨0, rfl, by omega, rfl⟩
        case round =>
          obtain ⟨j, rfl, hj, rfl⟩ := hrel
          by_cases hjl : j < G.length
          · obtain ⟨g, rfl, hI⟩ := own_int HO6.out rfl (by omega)
            have ck := hI.cell hjl
            have hx : 2 ≤ G.getD j 0 ∧ G.getD j 0 ≤ k := HF1.out _ (by rw [List.getD_eq_getElem?_getD, List.getElem?_eq_getElem hjl]; exact List.getElem_mem _)
            generalize G.getD j 0 = x at *
            have m0 : (0 : Int) ≤ (j : Int) := by omega
            have m1 : (j : Int) < (G.length : Int) := by omega
            have m2 : ¬ (x : Int) < 1 := by omega
            have m3 : ¬ (k : Int) < (x : Int) := by omega
            have m4 : IntKind.i64.wrap ((j : Int) + 1) = ((j + 1 : Nat) : Int) := by rw [IntKind.wrap_i64]; omega
            clear hI
            go_wp2_with fail
            go_roundw
            case rel => exact ⟨j + 1, rfl, by omega, trivial⟩
            case measure => simp [intOf]; omega
          · have m1 : ¬ (j : Int) < (G.length : Int) := by omega
            go_wp2_with fail
            with_reducible refine Calls.mono (HDp.out _ t pm HT6.out ⟨HP1.out.1, HP1.out.2, HB6.out.size⟩) ?_
            rintro e w7 ⟨E, rfl, hE, hn, hb⟩
            have HB7 := hide (HB6.out.trans hb)
            clear hb hn
            rcases hE with rfl | rfl | rfl
            all_goals
              go_wp2_with (first
                | (go_at_call 7; (with_reducible refine Calls.mono (HAw.out _) ?_); rintro e w8 ⟨rfl, hb⟩; have HB8 := hide (below_trans HB7.out hb); clear hb))
              go_ret
              exact ⟨rfl, HB8.out⟩
set_option maxRecDepth 20000 in
theorem pany_walk (w : World) (p : Option Addr) (len cap : Nat) (Q : Nat → List UInt8) (s : ByteArray) (hp : PgP w p len Q) :
    Calls Tryz.prog 5 #[.slice p len cap, .string s] w fun e w' => e = .returned (.bool true) ∧ Below w.heap.size w w' := by
  have HAw := hide (fun V => pawake_e V)
  by_cases hlen : len ≤ 40
  · by_cases hs : s.size ≤ 2000
    · exact pany_core w p len cap Q s hp hlen hs _ rfl
    · have l1 : ¬ (40 : Int) < (len : Int) := by omega
      have l2 : (2000 : Int) < (s.size : Int) := by omega
      clear hp
      go_enter Tryz.func5, Tryz.ntmps5
      go_wp2_with (first
        | (go_at_call 7; (with_reducible refine Calls.mono (HAw.out _) ?_); rintro e w1 ⟨rfl, hb⟩; have HB1 := hide hb; clear hb))
      go_ret
      exact ⟨rfl, HB1.out⟩
  · have l1 : (40 : Int) < (len : Int) := by omega
    clear hp
    go_enter Tryz.func5, Tryz.ntmps5
    go_wp2_with (first
      | (go_at_call 7; (with_reducible refine Calls.mono (HAw.out _) ?_); rintro e w1 ⟨rfl, hb⟩; have HB1 := hide hb; clear hb))
    go_ret
    exact ⟨rfl, HB1.out⟩
end Go.Proofs.YthgclfhfipfknaaGreat
