/- The document's page of a body. -/
import Derived.Test.YthhoeabenngiiaaGN
namespace Go.Proofs.Ythhoeabenngiiaa
open Go.ChangeShapes Go.WideShapes Go.ChangeAt Go.RowKit
set_option linter.unusedVariables false

theorem cell_body {w w' : World} {is : Bool} {k L : Int} {sv : Value} (hb : Below (w.alloc (bodyC is k L sv)).heap.size (w.alloc (bodyC is k L sv)) w') : w'.cell? ⟨w.heap.size, 3, none⟩ = some sv :=
  cell_later hb (by rw [cell_of_row _ _ _ _ _ _ (heap_alloc_new w _)]; rfl)
theorem str_at (s : ByteArray) (k : Nat) (h : k < s.size) : s.data.toList[k]? = some (s[k]'h) := by
  have e := bytes_size s
  rw [List.getElem?_eq_getElem (by omega)]
  rfl

set_option maxHeartbeats 4000000 in
set_option maxRecDepth 10000 in
theorem rlay_walk (is : Bool) (k L : Nat) (hk : k < 256) (hL : L < 4294967296) (b o n cap : Nat) (S : Nat → ByteArray) (hs : n + (cat S n).length ≤ 250) (w : World) (h : StrAt w b o n S) :
    Calls Try.prog 28 #[bodyV is (k : Int) (L : Int) (.slice (some ⟨b, o, none⟩) n cap)] w fun e w' => e = .returned (.agg (bc (pageL k L n S))) ∧ Below w.heap.size w w' := by
  have HBb := hide (new_below w (bodyC is (k : Int) (L : Int) (.slice (some ⟨b, o, none⟩) n cap)) rfl)
  have HZ0 := hide (PAt.new (w.alloc (bodyC is (k : Int) (L : Int) (.slice (some ⟨b, o, none⟩) n cap))) zs)
  have HB1 : Hid (Below (w.alloc (bodyC is (k : Int) (L : Int) (.slice (some ⟨b, o, none⟩) n cap))).heap.size (w.alloc (bodyC is (k : Int) (L : Int) (.slice (some ⟨b, o, none⟩) n cap))) ((w.alloc (bodyC is (k : Int) (L : Int) (.slice (some ⟨b, o, none⟩) n cap))).alloc (.cells (bc zs) 23))) := new_below _ _ rfl
  have HR := hide (h.later (below_trans HBb.out HB1.out))
  have HS := hide hs
  have HS1 : Hid ((w.alloc (bodyC is (k : Int) (L : Int) (.slice (some ⟨b, o, none⟩) n cap))).heap.size = w.heap.size + 1) := by show _ = _; simp
  have HS2 : Hid (((w.alloc (bodyC is (k : Int) (L : Int) (.slice (some ⟨b, o, none⟩) n cap))).alloc (.cells (bc zs) 23)).heap.size = w.heap.size + 1 + 1) := by show _ = _; simp
  have hz := zero_page.1
  have z0 := bc_get (l := zs) (k := 0) (by rw [zs_length]; omega)
  have z1 := bc_get (l := zs) (k := 1) (by rw [zs_length]; omega)
  have z2 := bc_get (l := zs) (k := 2) (by rw [zs_length]; omega)
  have z3 := bc_get (l := zs) (k := 3) (by rw [zs_length]; omega)
  have z4 := bc_get (l := zs) (k := 4) (by rw [zs_length]; omega)
  have z5 := bc_get (l := zs) (k := 5) (by rw [zs_length]; omega)
  have w1 : IntKind.u8.wrap (k : Int) = (k : Int) := by rw [IntKind.wrap_u8]; omega
  have w2 : IntKind.u8.wrap (n : Int) = (n : Int) := by rw [IntKind.wrap_u8]; omega
  have w3 : IntKind.i64.wrap (6 + (n : Int)) = 6 + (n : Int) := by rw [IntKind.wrap_i64]; omega
  have HK := hide hk
  have HL := hide hL
  have HN := hide (show n ≤ 250 by omega)
  clear h hs hk
  go_enter Try.func28, Try.ntmps28
  go_wp2
  rw [hd_set k n L HK.out HL.out S HN.out]
  have hp0 : PAt (((w.alloc (bodyC is (k : Int) (L : Int) (.slice (some ⟨b, o, none⟩) n cap))).alloc (.cells (bc zs) 23)).alloc (.cells (bc (layH (hd6 k n L) S n 0)) 23)) (w.heap.size + 1 + 1) (layH (hd6 k n L) S n 0) := by
    have := PAt.new ((w.alloc (bodyC is (k : Int) (L : Int) (.slice (some ⟨b, o, none⟩) n cap))).alloc (.cells (bc zs) 23)) (layH (hd6 k n L) S n 0)
    rwa [HS2.out] at this
  have hb0 : Below (w.heap.size + 1 + 1) ((w.alloc (bodyC is (k : Int) (L : Int) (.slice (some ⟨b, o, none⟩) n cap))).alloc (.cells (bc zs) 23)) (((w.alloc (bodyC is (k : Int) (L : Int) (.slice (some ⟨b, o, none⟩) n cap))).alloc (.cells (bc zs) 23)).alloc (.cells (bc (layH (hd6 k n L) S n 0)) 23)) := by
    have := new_below ((w.alloc (bodyC is (k : Int) (L : Int) (.slice (some ⟨b, o, none⟩) n cap))).alloc (.cells (bc zs) 23)) (.cells (bc (layH (hd6 k n L) S n 0)) 23) rfl
    rwa [HS2.out] at this
  generalize ((w.alloc (bodyC is (k : Int) (L : Int) (.slice (some ⟨b, o, none⟩) n cap))).alloc (.cells (bc zs) 23)).alloc (.cells (bc (layH (hd6 k n L) S n 0)) 23) = W2 at hp0 hb0
  have HP0 := hide hp0
  have HB0 := hide hb0
  clear hp0 hb0 z0 z1 z2 z3 z4 z5 hz
  go_loopw [5, 4] (fun iv av wr => ∃ i : Nat, i ≤ n ∧ iv = .int .i64 (i : Int) ∧ av = .int .i64 ((6 + n + (cat S i).length : Nat) : Int) ∧ PAt wr (w.heap.size + 1 + 1) (layH (hd6 k n L) S n i) ∧ Below (w.heap.size + 1 + 1) ((w.alloc (bodyC is (k : Int) (L : Int) (.slice (some ⟨b, o, none⟩) n cap))).alloc (.cells (bc zs) 23)) wr) (fun iv _ _ => n - (intOf iv).toNat)
  case atStart => exact ⟨0, Nat.zero_le _, rfl, rfl, HP0.out, HB0.out⟩
  case round =>
    obtain ⟨i, hi, rfl, rfl, hp, hb⟩ := hrel
    have HPi := hide hp
    have hb' : Below ((w.alloc (bodyC is (k : Int) (L : Int) (.slice (some ⟨b, o, none⟩) n cap))).alloc (.cells (bc zs) 23)).heap.size ((w.alloc (bodyC is (k : Int) (L : Int) (.slice (some ⟨b, o, none⟩) n cap))).alloc (.cells (bc zs) 23)) wr := by rw [HS2.out]; exact hb
    have HBi := hide hb'
    clear hp hb hb'
    have csl := cell_body (below_trans HB1.out HBi.out)
    by_cases hlt : i < n
    · have l1 : (i : Int) < (n : Int) := by omega
      have l0 : (0 : Int) ≤ (i : Int) := by omega
      have hs := HS.out
      have hc := cat_len S i
      have hm := cat_mono S (show i + 1 ≤ n by omega)
      have hw1 : IntKind.i64.wrap ((i : Int) + 1) = (i : Int) + 1 := by rw [IntKind.wrap_i64]; omega
      have hw2 : IntKind.i64.wrap (6 + (i : Int)) = 6 + (i : Int) := by rw [IntKind.wrap_i64]; omega
      have hw3 : IntKind.u8.wrap ((S i).size : Int) = ((S i).size : Int) := by rw [IntKind.wrap_u8]; omega
      have ci := (HR.out.later HBi.out) i hlt
      have cp := HPi.out.cell (k := 6 + i) (by rw [layH_length rfl (by omega) (by omega)]; omega)
      have fp := HPi.out.frozen (6 + i)
      have l6 : 6 + (i : Int) < 256 := by omega
      have HQ := hide (HPi.out.set (6 + i) (UInt8.ofNat (S i).size) (x := ((S i).size : Int)) (by simp; omega))
      rw [layI_start _ S n i rfl hlt] at HQ
      have HBq : Hid (Below ((w.alloc (bodyC is (k : Int) (L : Int) (.slice (some ⟨b, o, none⟩) n cap))).alloc (.cells (bc zs) 23)).heap.size ((w.alloc (bodyC is (k : Int) (L : Int) (.slice (some ⟨b, o, none⟩) n cap))).alloc (.cells (bc zs) 23)) (wr.setCell ⟨w.heap.size + 1 + 1, 6 + i, none⟩ (.int .u8 ((S i).size : Int)))) := HBi.out.setCell (by rw [HS2.out]; exact Nat.le_refl _) _
      have HC := hide hc
      have HM := hide hm
      clear hs hc hm
      go_wp2
      generalize wr.setCell ⟨w.heap.size + 1 + 1, 6 + i, none⟩ (.int .u8 ((S i).size : Int)) = V2 at HQ HBq
      clear cp fp ci csl
      go_loopw [6, 4] (fun kv av wr => ∃ kk : Nat, kk ≤ (S i).size ∧ kv = .int .i64 (kk : Int) ∧ av = .int .i64 ((6 + n + (cat S i).length + kk : Nat) : Int) ∧ PAt wr (w.heap.size + 1 + 1) (layI (hd6 k n L) S n i kk) ∧ Below ((w.alloc (bodyC is (k : Int) (L : Int) (.slice (some ⟨b, o, none⟩) n cap))).alloc (.cells (bc zs) 23)).heap.size ((w.alloc (bodyC is (k : Int) (L : Int) (.slice (some ⟨b, o, none⟩) n cap))).alloc (.cells (bc zs) 23)) wr) (fun kv _ _ => (S i).size - (intOf kv).toNat)
      case atStart => exact ⟨0, Nat.zero_le _, rfl, rfl, HQ.out, HBq.out⟩
      case round =>
        obtain ⟨kk, hkk, rfl, rfl, hp, hb⟩ := hrel
        have HPk := hide hp
        have HBk := hide hb
        clear hp hb
        have csl := cell_body (below_trans HB1.out HBk.out)
        have ci := (HR.out.later HBk.out) i hlt
        by_cases hk2 : kk < (S i).size
        · have l3 : (kk : Int) < ((S i).size : Int) := by omega
          have l4 : (0 : Int) ≤ (kk : Int) := by omega
          have hs := HS.out
          have hc := HC.out
          have hm := HM.out
          have hw5 : IntKind.i64.wrap ((kk : Int) + 1) = (kk : Int) + 1 := by rw [IntKind.wrap_i64]; omega
          obtain ⟨p, hp⟩ : ∃ p : Nat, p = 6 + n + (cat S i).length + kk := ⟨_, rfl⟩
          rw [← hp]
          have hw6 : IntKind.i64.wrap ((p : Int) + 1) = (p : Int) + 1 := by rw [IntKind.wrap_i64]; omega
          have l5 : (0 : Int) ≤ (p : Int) := by omega
          have l7 : (p : Int) < 256 := by omega
          obtain ⟨q, hq⟩ : ∃ q : UInt8, q = (S i)[kk]'hk2 := ⟨_, rfl⟩
          have hq2 : ∀ h : kk < (S i).size, ((S i)[kk]'h).toNat = q.toNat := fun h => by rw [hq]
          have cp := HPk.out.cell (k := p) (by rw [layI_length rfl hlt hkk (by omega)]; omega)
          have fp := HPk.out.frozen p
          have HQ2 := hide (HPk.out.set p q (x := (q.toNat : Int)) rfl)
          rw [layI_step _ S n i kk q rfl hlt hk2 (by rw [hq]; exact str_at _ _ hk2) (by omega) hp] at HQ2
          have HBk2 : Hid (Below ((w.alloc (bodyC is (k : Int) (L : Int) (.slice (some ⟨b, o, none⟩) n cap))).alloc (.cells (bc zs) 23)).heap.size ((w.alloc (bodyC is (k : Int) (L : Int) (.slice (some ⟨b, o, none⟩) n cap))).alloc (.cells (bc zs) 23)) (wr.setCell ⟨w.heap.size + 1 + 1, p, none⟩ (.int .u8 (q.toNat : Int)))) := HBk.out.setCell (by rw [HS2.out]; exact Nat.le_refl _) _
          have HPp := hide hp
          clear hq hs hc hm hp
          go_wp2
          refine ⟨⟨kk + 1, hk2, rfl, ?_, HQ2.out, HBk2.out⟩, ?_⟩
          · rw [HPp.out]; rfl
          · simp only [intOf]; omega
        · have l3 : ¬ (kk : Int) < ((S i).size : Int) := by omega
          obtain rfl : kk = (S i).size := by omega
          have HQ3 := hide HPk.out
          rw [layI_end _ S n i hlt] at HQ3
          go_wp2
          refine ⟨⟨i + 1, hlt, rfl, ?_, HQ3.out, by have := HBk.out; rwa [HS2.out] at this⟩, ?_⟩
          · rw [HC.out]; congr 1; omega
          · simp only [intOf]; omega
    · have l1 : ¬ (i : Int) < (n : Int) := by omega
      obtain rfl : i = n := by omega
      rw [← pageL_eq] at HPi
      have HLp := hide (pageL_length (k := k) (L := L) (n := i) (S := S) HS.out)
      have HZ2 : Hid (PAt wr (w.heap.size + 1) zs) := by
        have := HZ0.out.later HBi.out
        rwa [HS1.out] at this
      have HB2 := hide (below_trans (below_trans HBb.out HB1.out) HBi.out)
      go_wp2_with (first
        | (refine wp_loadP HLp.out HPi.out _ (by rfl) (by rfl) (by rfl) ?_)
        | (refine wp_storeP HLp.out zs_length HZ2.out _ _ (by rfl) (by rfl) (by rfl) (by rfl) ?_; intro W3 hp hb hk; have HP3 := hide hp; have HB3 := hide (hb _ _ HB2.out (by omega)); clear hp hb hk)
        | (exact ret_page Try.results28 rfl HLp.out HP3.out ⟨rfl, HB3.out⟩))
end Go.Proofs.Ythhoeabenngiiaa
