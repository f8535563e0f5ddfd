/- A page, a count and the last mark of a log. -/
import Derived.Test.YteocmhbllckpjaaGreatX2
import Derived.Test.YteocmhbllckpjaaGreatXI
namespace Go.Proofs.YteocmhbllckpjaaGreat
open Go.ChangeShapes Go.WideShapes Go.ChangeAt Go.RowKit
open Go.ChangeMaps (setBlock)
set_option linter.unusedVariables false

/-- A mark of a log of so many frames. -/
def IsM (K : Nat) (E : Nat → Nat) (M : Nat) : Prop := M = 0 ∨ (M ≤ K ∧ E (M - 1) ≠ 0)
theorem IsM.le {K M : Nat} {E : Nat → Nat} (h : IsM K E M) : M ≤ K := by rcases h with rfl | h; omega; exact h.1
theorem grown_of_below {w w' : World} (hb : Below w.heap.size w w') : w.grownBy w' none := ⟨hb.os, hb.tape, hb.output, hb.size, fun k hk _ => hb.block k hk⟩
theorem count_mark (w : World) (base b : Nat) (D : DS) (who : Nat → Nat) (R : Rep w base b D who) {r : Int} {i : Nat} (h : JI r D i) {K : Nat} {N E : Nat → Nat} {P : Nat → List UInt8} (hL : Lgf (seenOf D nmJ) K N E P) (M : Nat) (hM : IsM K E M) :
    Calls Tryz.prog 44 #[lgV b (txt (seenOf D nmJ) K) K, .int .i64 (M : Int)] w fun x w' => x = .returned (.tuple #[.int .i64 (cntL (seenOf D nmD) M E : Nat), .bool true]) ∧ w.grownBy w' none := by
  unfold cntL
  rcases Nat.eq_zero_or_pos M with rfl | hp
  · rw [if_pos rfl]
    exact count_zero w base b D who R h _ K
  · obtain ⟨k, rfl⟩ : ∃ k, M = k + 1 := ⟨M - 1, by omega⟩
    rcases hM with e | ⟨hle, he⟩
    · omega
    have he : E k ≠ 0 := by simpa using he
    have := count_at w b (txt (seenOf D nmJ) K) K (by have := hL.few; omega) N E P hL.frs k (by omega)
    rw [if_neg he] at this
    rw [if_neg (by omega)]
    refine Calls.mono (by rw [show ((k + 1 : Nat) : Int) = (k : Int) + 1 by omega]; exact this) ?_
    rintro x w' ⟨rfl, hg⟩
    refine ⟨?_, hg⟩
    rw [show k + 1 - 1 = k by omega, show ((E k - 1 : Nat) : Int) = (E k : Int) - 1 by omega]
    simp [he]
/-- A number that is no mark. -/
theorem count_not (w : World) (b : Nat) {l : List UInt8} {K : Nat} {N E : Nat → Nat} {P : Nat → List UInt8} (hL : Lgf l K N E P) (M : Nat) (h1 : 1 ≤ M) (hM : M ≤ K) (he : E (M - 1) = 0) :
    Calls Tryz.prog 44 #[lgV b (txt l K) K, .int .i64 (M : Int)] w fun x w' => x = .returned (.tuple #[.int .i64 0, .bool false]) ∧ w.grownBy w' none := by
  obtain ⟨k, rfl⟩ : ∃ k, M = k + 1 := ⟨M - 1, by omega⟩
  have he : E k = 0 := by simpa using he
  have := count_at w b (txt l K) K (by have := hL.few; omega) N E P hL.frs k (by omega)
  rw [if_pos he] at this
  refine Calls.mono (by rw [show ((k + 1 : Nat) : Int) = (k : Int) + 1 by omega]; exact this) ?_
  rintro x w' ⟨rfl, hg⟩
  exact ⟨by simp [he], hg⟩
theorem pgAt_length {db : List UInt8} {N E : Nat → Nat} {P : Nat → List UInt8} (ha : Fra N E P) {m n : Nat} (hn : 1 ≤ n) : (pgAt db N P m n).length = 256 := foldP_length ha.pg (pgZ_length hn) _

set_option maxHeartbeats 4000000 in
set_option maxRecDepth 20000 in
theorem pageX_w (w : World) (base b : Nat) (D : DS) (who : Nat → Nat) (R : Rep w base b D who) {r : Int} {i : Nat} (h : JI r D i) {K : Nat} {N E : Nat → Nat} {P : Nat → List UInt8} (hL : Lgf (seenOf D nmJ) K N E P) (M : Nat) (hM : IsM K E M) (n : Nat) (hn : 1 ≤ n) (hc : n ≤ cntL (seenOf D nmD) M E) :
    Calls Tryz.prog 19 #[.pointer (some ⟨b, 0, none⟩), .int .i64 (M : Int), .int .i64 (n : Int)] w fun x w' => x = .returned (.tuple #[.agg (bcs (pgAt (seenOf D nmD) N P M n)).toArray, .int .i64 0]) ∧ w.grownBy w' none := by
  have hlen := pgAt_length (db := seenOf D nmD) hL.all (m := M) hn
  have HN := hideJ (new24 w)
  have HG0 := hideJ (World.grownBy_alloc w (.cells Tryz.zeroCells49 49) none)
  have HOp : Hid (∀ V, w.grownBy V none → Calls Tryz.prog 42 #[.pointer (some ⟨b, 0, none⟩)] V fun e w' => e = .returned (.tuple #[.agg #[.pointer (some ⟨b, 0, none⟩), .string (bstr (txt (seenOf D nmJ) K)), .int .i64 (K : Int)], .int .i64 0]) ∧ V.grownBy w' none) := fun V hV => open_w V base b D who (R.keep hV) h hL
  have HCt : Hid (∀ V, w.grownBy V none → Calls Tryz.prog 44 #[.agg #[.pointer (some ⟨b, 0, none⟩), .string (bstr (txt (seenOf D nmJ) K)), .int .i64 (K : Int)], .int .i64 (M : Int)] V fun x w' => x = .returned (.tuple #[.int .i64 (cntL (seenOf D nmD) M E : Nat), .bool true]) ∧ V.grownBy w' none) := fun V hV => count_mark V base b D who (R.keep hV) h hL M hM
  have HPg : Hid (∀ V, w.grownBy V none → Calls Tryz.prog 45 #[.agg #[.pointer (some ⟨b, 0, none⟩), .string (bstr (txt (seenOf D nmJ) K)), .int .i64 (K : Int)], .int .i64 (M : Int), .int .i64 (n : Int)] V fun x w' => x = .returned (.agg (bcs (pgAt (seenOf D nmD) N P M n)).toArray) ∧ V.grownBy w' none) := fun V hV =>
    (pageW_w V base b D who (R.keep hV) h _ K (by have := hL.few; omega) N E P hL.frs hL.all M hM.le n hn).mono (fun e w' h => ⟨h.1, grown_of_below h.2⟩)
  have HI := hideJ (size24 hlen)
  have HA := hideJ (bytes_all (pgAt (seenOf D nmD) N P M n))
  have HSz : Hid ((bcs (pgAt (seenOf D nmD) N P M n)).toArray.size = (bcs z256).toArray.size) := by show _ = _; rw [List.size_toArray, List.size_toArray, length_bcs, length_bcs, hlen, z256_length]
  have HI93 := hideJ info93
  have HZ := hideJ (fun V => alloc_new V (.cells #[.pointer none, .string ⟨#[]⟩, .int .i64 0] 93))
  obtain ⟨C, hC⟩ : ∃ C : Nat, C = cntL (seenOf D nmD) M E := ⟨_, rfl⟩
  rw [← hC] at HCt hc
  have l1 : ¬ (n : Int) < 1 := by omega
  have l2 : ¬ (C : Int) < (n : Int) := by omega
  generalize bstr (txt (seenOf D nmJ) K) = T at HOp HCt HPg
  generalize pgAt (seenOf D nmD) N P M n = Y at HPg HI HA HSz ⊢
  clear R h hL hM hn hc hlen hC
  go_enter Tryz.func19, Tryz.ntmps19
  go_wp2_with (first
    | (go_at_call 42; (with_reducible refine Calls.mono (HOp.out _ HG0.out) ?_); rintro e w1 ⟨rfl, hg⟩; have HG1 := hideJ (grown_trans' HG0.out hg); have HR1 := hideJ (Blk.grown HN.out hg); clear hg)
    | ((with_reducible refine at93S ?_); refine wp_storeB (c := #[.pointer (some ⟨b, 0, none⟩), .string T, .int .i64 (K : Int)]) HI93.out (by rfl) three_one (HZ.out _) _ _ (by rfl) (by rfl) (by rfl) (by rfl) ?_; intro W2 hb2 ho2; have HB2 := hideJ hb2; have HG2 := hideJ (grown_only (grown_trans' HG1.out (World.grownBy_alloc _ _ _)) ho2 HG1.out.size); have HR2 := hideJ (Blk.allocO HR1.out ho2); clear hb2 ho2)
    | ((with_reducible refine at93L ?_); refine wp_loadB (c := #[.pointer (some ⟨b, 0, none⟩), .string T, .int .i64 (K : Int)]) HI93.out u93 HB2.out _ (by rfl) (by rfl) (by rfl) ?_)
    | (go_at_call 44; (with_reducible refine Calls.mono (HCt.out _ HG2.out) ?_); rintro e w3 ⟨rfl, hg⟩; have HG3 := hideJ (grown_trans' HG2.out hg); have HB3 := hideJ (Blk.grown HB2.out hg); have HR3 := hideJ (Blk.grown HR2.out hg); clear hg)
    | ((with_reducible refine at93L ?_); refine wp_loadB (c := #[.pointer (some ⟨b, 0, none⟩), .string T, .int .i64 (K : Int)]) HI93.out u93 HB3.out _ (by rfl) (by rfl) (by rfl) ?_)
    | (go_at_call 45; (with_reducible refine Calls.mono (HPg.out _ HG3.out) ?_); rintro e w4 ⟨rfl, hg⟩; have HG4 := hideJ (grown_trans' HG3.out hg); have HR4 := hideJ (Blk.grown HR3.out hg); clear hg)
    | ((with_reducible refine at24S ?_); refine wp_storeB (c := (bcs Y).toArray) HI.out HSz.out HA.out HR4.out _ _ (by rfl) (by rfl) (by rfl) (by rfl) ?_; intro W5 hb5 ho5; have HB5 := hideJ hb5; have HG5 := hideJ (grown_only HG4.out ho5 (Nat.le_refl _)); clear hb5 ho5))
  refine ret_pair HI.out u24 (by rfl) (by rfl) (by rfl) HB5.out ?_
  exact ⟨rfl, HG5.out⟩

set_option maxHeartbeats 4000000 in
set_option maxRecDepth 20000 in
theorem pageX_not (w : World) (base b : Nat) (D : DS) (who : Nat → Nat) (R : Rep w base b D who) {r : Int} {i : Nat} (h : JI r D i) {K : Nat} {N E : Nat → Nat} {P : Nat → List UInt8} (hL : Lgf (seenOf D nmJ) K N E P) (M : Nat) (h1 : 1 ≤ M) (hM : M ≤ K) (he : E (M - 1) = 0) (n : Int) :
    Calls Tryz.prog 19 #[.pointer (some ⟨b, 0, none⟩), .int .i64 (M : Int), .int .i64 n] w fun x w' => x = .returned (.tuple #[.agg (bcs z256).toArray, .int .i64 4]) ∧ w.grownBy w' none := by
  have HN := hideJ (new24 w)
  have HG0 := hideJ (World.grownBy_alloc w (.cells Tryz.zeroCells49 49) none)
  have HOp : Hid (∀ V, w.grownBy V none → Calls Tryz.prog 42 #[.pointer (some ⟨b, 0, none⟩)] V fun e w' => e = .returned (.tuple #[.agg #[.pointer (some ⟨b, 0, none⟩), .string (bstr (txt (seenOf D nmJ) K)), .int .i64 (K : Int)], .int .i64 0]) ∧ V.grownBy w' none) := fun V hV => open_w V base b D who (R.keep hV) h hL
  have HCt : Hid (∀ V, w.grownBy V none → Calls Tryz.prog 44 #[.agg #[.pointer (some ⟨b, 0, none⟩), .string (bstr (txt (seenOf D nmJ) K)), .int .i64 (K : Int)], .int .i64 (M : Int)] V fun x w' => x = .returned (.tuple #[.int .i64 0, .bool false]) ∧ V.grownBy w' none) := fun V hV => count_not V b hL M h1 hM he
  have HI := hideJ (size24 z256_length)
  have HA := hideJ (bytes_all z256)
  have HI93 := hideJ info93
  have HZ := hideJ (fun V => alloc_new V (.cells #[.pointer none, .string ⟨#[]⟩, .int .i64 0] 93))
  have hbu := built24
  generalize bstr (txt (seenOf D nmJ) K) = T at HOp HCt
  clear R h hL hM h1 he
  go_enter Tryz.func19, Tryz.ntmps19
  go_wp2_with (first
    | (go_at_call 42; (with_reducible refine Calls.mono (HOp.out _ HG0.out) ?_); rintro e w1 ⟨rfl, hg⟩; have HG1 := hideJ (grown_trans' HG0.out hg); have HR1 := hideJ (Blk.grown HN.out hg); clear hg)
    | ((with_reducible refine at93S ?_); refine wp_storeB (c := #[.pointer (some ⟨b, 0, none⟩), .string T, .int .i64 (K : Int)]) HI93.out (by rfl) three_one (HZ.out _) _ _ (by rfl) (by rfl) (by rfl) (by rfl) ?_; intro W2 hb2 ho2; have HB2 := hideJ hb2; have HG2 := hideJ (grown_only (grown_trans' HG1.out (World.grownBy_alloc _ _ _)) ho2 HG1.out.size); have HR2 := hideJ (Blk.allocO HR1.out ho2); clear hb2 ho2)
    | ((with_reducible refine at93L ?_); refine wp_loadB (c := #[.pointer (some ⟨b, 0, none⟩), .string T, .int .i64 (K : Int)]) HI93.out u93 HB2.out _ (by rfl) (by rfl) (by rfl) ?_)
    | (go_at_call 44; (with_reducible refine Calls.mono (HCt.out _ HG2.out) ?_); rintro e w3 ⟨rfl, hg⟩; have HG3 := hideJ (grown_trans' HG2.out hg); have HR3 := hideJ (Blk.grown HR2.out hg); clear hg)
    | ((with_reducible refine at24S ?_); refine wp_storeB (c := (bcs z256).toArray) HI.out (by rfl) HA.out HR3.out _ _ (by rfl) (by rfl) (by rfl) (by rfl) ?_; intro W5 hb5 ho5; have HB5 := hideJ hb5; have HG5 := hideJ (grown_only HG3.out ho5 (Nat.le_refl _)); clear hb5 ho5))
  refine ret_pair HI.out u24 (by rfl) (by rfl) (by rfl) HB5.out ?_
  exact ⟨rfl, HG5.out⟩

set_option maxHeartbeats 2000000 in
theorem markX_w (w : World) (base b : Nat) (D : DS) (who : Nat → Nat) (R : Rep w base b D who) {r : Int} {i : Nat} (h : JI r D i) {K : Nat} {N E : Nat → Nat} {P : Nat → List UInt8} (hL : Lgf (seenOf D nmJ) K N E P) :
    Calls Tryz.prog 16 #[.pointer (some ⟨b, 0, none⟩)] w fun x w' => x = .returned (.tuple #[.int .i64 (K : Int), .int .i64 0]) ∧ w.grownBy w' none := by
  have HOp : Hid (Calls Tryz.prog 42 #[.pointer (some ⟨b, 0, none⟩)] w fun e w' => e = .returned (.tuple #[.agg #[.pointer (some ⟨b, 0, none⟩), .string (bstr (txt (seenOf D nmJ) K)), .int .i64 (K : Int)], .int .i64 0]) ∧ w.grownBy w' none) := open_w w base b D who R h hL
  have HI93 := hideJ info93
  have HZ := hideJ (fun V => alloc_new V (.cells #[.pointer none, .string ⟨#[]⟩, .int .i64 0] 93))
  generalize bstr (txt (seenOf D nmJ) K) = T at HOp
  clear R h hL
  go_enter Tryz.func16, Tryz.ntmps16
  go_wp2_with (first
    | (go_at_call 42; (with_reducible refine Calls.mono HOp.out ?_); rintro e w1 ⟨rfl, hg⟩; have HG1 := hideJ hg; clear hg)
    | ((with_reducible refine at93S ?_); refine wp_storeB (c := #[.pointer (some ⟨b, 0, none⟩), .string T, .int .i64 (K : Int)]) HI93.out (by rfl) three_one (HZ.out _) _ _ (by rfl) (by rfl) (by rfl) (by rfl) ?_; intro W2 hb2 ho2; have HG2 := hideJ (grown_only (grown_trans' HG1.out (World.grownBy_alloc _ _ _)) ho2 HG1.out.size); have c2 := (Blk.cell hb2 2).trans (show _ = some (Value.int .i64 (K : Int)) from rfl); clear hb2 ho2))
  go_ret2
  exact ⟨rfl, HG2.out⟩

set_option maxHeartbeats 2000000 in
theorem countX_w (w : World) (base b : Nat) (D : DS) (who : Nat → Nat) (R : Rep w base b D who) {r : Int} {i : Nat} (h : JI r D i) {K : Nat} {N E : Nat → Nat} {P : Nat → List UInt8} (hL : Lgf (seenOf D nmJ) K N E P) (M : Nat) (hM : IsM K E M) :
    Calls Tryz.prog 18 #[.pointer (some ⟨b, 0, none⟩), .int .i64 (M : Int)] w fun x w' => x = .returned (.tuple #[.int .i64 (cntL (seenOf D nmD) M E : Nat), .int .i64 0]) ∧ w.grownBy w' none := by
  have HOp : Hid (Calls Tryz.prog 42 #[.pointer (some ⟨b, 0, none⟩)] w fun e w' => e = .returned (.tuple #[.agg #[.pointer (some ⟨b, 0, none⟩), .string (bstr (txt (seenOf D nmJ) K)), .int .i64 (K : Int)], .int .i64 0]) ∧ w.grownBy w' none) := open_w w base b D who R h hL
  have HCt : Hid (∀ V, w.grownBy V none → Calls Tryz.prog 44 #[.agg #[.pointer (some ⟨b, 0, none⟩), .string (bstr (txt (seenOf D nmJ) K)), .int .i64 (K : Int)], .int .i64 (M : Int)] V fun x w' => x = .returned (.tuple #[.int .i64 (cntL (seenOf D nmD) M E : Nat), .bool true]) ∧ V.grownBy w' none) := fun V hV => count_mark V base b D who (R.keep hV) h hL M hM
  have HI93 := hideJ info93
  have HZ := hideJ (fun V => alloc_new V (.cells #[.pointer none, .string ⟨#[]⟩, .int .i64 0] 93))
  generalize bstr (txt (seenOf D nmJ) K) = T at HOp HCt
  generalize ((cntL (seenOf D nmD) M E : Nat) : Int) = C at HCt ⊢
  clear R h hL hM
  go_enter Tryz.func18, Tryz.ntmps18
  go_wp2_with (first
    | (go_at_call 42; (with_reducible refine Calls.mono HOp.out ?_); rintro e w1 ⟨rfl, hg⟩; have HG1 := hideJ hg; clear hg)
    | ((with_reducible refine at93S ?_); refine wp_storeB (c := #[.pointer (some ⟨b, 0, none⟩), .string T, .int .i64 (K : Int)]) HI93.out (by rfl) three_one (HZ.out _) _ _ (by rfl) (by rfl) (by rfl) (by rfl) ?_; intro W2 hb2 ho2; have HB2 := hideJ hb2; have HG2 := hideJ (grown_only (grown_trans' HG1.out (World.grownBy_alloc _ _ _)) ho2 HG1.out.size); clear hb2 ho2)
    | ((with_reducible refine at93L ?_); refine wp_loadB (c := #[.pointer (some ⟨b, 0, none⟩), .string T, .int .i64 (K : Int)]) HI93.out u93 HB2.out _ (by rfl) (by rfl) (by rfl) ?_)
    | (go_at_call 44; (with_reducible refine Calls.mono (HCt.out _ HG2.out) ?_); rintro e w3 ⟨rfl, hg⟩; have HG3 := hideJ (grown_trans' HG2.out hg); clear hg))
  go_ret2
  exact ⟨rfl, HG3.out⟩
end Go.Proofs.YteocmhbllckpjaaGreat
