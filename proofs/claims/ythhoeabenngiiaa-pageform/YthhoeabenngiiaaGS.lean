/- New and the document's New, of any cells; of none. -/
import Derived.Test.YthhoeabenngiiaaGR
import Derived.Test.YthhoeabenngiiaaGQ
import Derived.Laws.Append
import Derived.Stop.BytesEq
namespace Go.Proofs.Ythhoeabenngiiaa
open Go.ChangeShapes Go.WideShapes Go.ChangeAt Go.RowKit
set_option linter.unusedVariables false

theorem new_walk (k L : Nat) (hk : k < 256) (hL : L < 4294967296) (b o n cap : Nat) (S : Nat → ByteArray) (hn : n ≤ 1000000) (w : World) (h : StrAt w b o n S) :
    Calls Try.prog 18 #[.int .u8 (k : Int), .int .u32 (L : Int), .slice (some ⟨b, o, none⟩) n cap] w fun e w' => (∃ l x, l.length = 256 ∧ NewIs k L n S l x ∧ e = .returned (.tuple #[.agg (bc l), .int .i64 x])) ∧ Below w.heap.size w w' := by
  by_cases h5 : 5 < k
  · exact (new_kind k L h5 _ w).mono fun e w' ⟨he, hb⟩ => ⟨⟨_, _, zs_length, by unfold NewIs; rw [if_pos h5]; exact ⟨rfl, rfl⟩, he⟩, hb⟩
  · by_cases hE : cErr n S = 0
    · exact new_ok k L h5 hL b o n cap S hn hE w h
    · exact (new_bad k L h5 b o n cap S hn _ rfl hE w h).mono fun e w' ⟨he, hb⟩ => ⟨⟨_, _, zs_length, by unfold NewIs; rw [if_neg h5, if_pos hE]; exact ⟨rfl, rfl⟩, he⟩, hb⟩
theorem NewIs.same {k L n : Nat} {S : Nat → ByteArray} {l l' : List UInt8} {e e' : Int} (h : NewIs k L n S l e) (h' : NewIs k L n S l' e') : l = l' ∧ e = e' := by
  unfold NewIs at h h'
  split at h
  · rw [if_pos (by assumption)] at h'
    exact ⟨h.1.trans h'.1.symm, h.2.trans h'.2.symm⟩
  · rw [if_neg (by assumption)] at h'
    split at h
    · rw [if_pos (by assumption)] at h'
      exact ⟨h.1.trans h'.1.symm, h.2.trans h'.2.symm⟩
    · rw [if_neg (by assumption)] at h'
      split at h
      · rw [if_pos (by assumption)] at h'
        exact ⟨h.1.trans h'.1.symm, h.2.trans h'.2.symm⟩
      · rw [if_neg (by assumption)] at h'
        exact ⟨h.1.trans h'.1.symm, h.2.trans h'.2.symm⟩
theorem rnew_walk (k L : Nat) (hL : L < 4294967296) (b o n cap : Nat) (S : Nat → ByteArray) (hn : n ≤ 1000000) (w : World) (h : StrAt w b o n S) :
    Calls Try.prog 19 #[.int .i64 (k : Int), .int .u32 (L : Int), .slice (some ⟨b, o, none⟩) n cap] w fun e w' => (∃ l x, l.length = 256 ∧ NewIs k L n S l x ∧ e = .returned (.tuple #[.agg (bc l), .int .i64 x])) ∧ Below w.heap.size w w' := by
  by_cases h1 : 5 < k ∨ emptyB S n = true
  · refine (rnew_bad k L b o n cap S (by omega) (if_pos h1) w h).mono fun e w' ⟨he, hb⟩ => ⟨⟨_, _, zs_length, ?_, he⟩, hb⟩
    unfold NewIs
    by_cases h5 : 5 < k
    · rw [if_pos h5]; exact ⟨rfl, rfl⟩
    · have h2 : emptyB S n = true := h1.resolve_left h5
      obtain ⟨i, hi, hz⟩ := (emptyB_iff S n).1 h2
      have hc := cErr_empty hi hz
      rw [if_neg h5, if_pos (by rw [hc]; decide), hc]
      exact ⟨rfl, rfl⟩
  · have h5 : ¬ 5 < k := fun h => h1 (.inl h)
    have hc := cErr_long (len := n) (S := S) (fun i hi hz => h1 (.inr ((emptyB_iff S n).2 ⟨i, hi, hz⟩)))
    by_cases hl : longB S n = true
    · refine (rnew_long k L b o n cap S (by omega) (if_neg h1) hl w h).mono fun e w' ⟨he, hb⟩ => ⟨⟨_, _, zs_length, ?_, he⟩, hb⟩
      unfold NewIs
      have h3 : lErr S n = 3 := if_pos hl
      rw [h3] at hc
      rw [if_neg h5, if_pos (by rw [hc]; decide), hc]
      exact ⟨rfl, rfl⟩
    · refine (rnew_ok k L hL b o n cap S hn (if_neg h1) hl w h).mono fun e w' ⟨⟨l, x, hl2, hx, he⟩, hb⟩ => ⟨⟨l, x, hl2, ?_, he⟩, hb⟩
      unfold NewIs
      have h3 : lErr S n = 0 := if_neg hl
      rw [h3] at hc
      rw [if_neg h5, if_neg (by rw [hc]; simp)]
      exact hx

def noS : Nat → ByteArray := fun _ => ⟨#[]⟩
theorem page0 (k L : Nat) : pageL k L 0 noS = layH (hd6 k 0 L) noS 0 0 := pageL_eq k L 0 noS

set_option maxHeartbeats 1000000 in
set_option maxRecDepth 10000 in
theorem rlay_nil (is : Bool) (k L : Nat) (hk : k < 256) (hL : L < 4294967296) (p : Option Addr) (cap : Nat) (w : World) :
    Calls Try.prog 28 #[bodyV is (k : Int) (L : Int) (.slice p 0 cap)] w fun e w' => e = .returned (.agg (bc (pageL k L 0 noS))) ∧ Below w.heap.size w w' := by
  have HBb := hide (new_below w (bodyC is (k : Int) (L : Int) (.slice p 0 cap)) rfl)
  have HB1 : Hid (Below w.heap.size w (((w.alloc (bodyC is (k : Int) (L : Int) (.slice p 0 cap))).alloc (.cells (bc zs) 23)).alloc (.cells (bc (pageL k L 0 noS)) 23))) := below_trans (below_trans HBb.out (new_below _ _ rfl)) (new_below _ _ rfl)
  have HS1 : (w.alloc (bodyC is (k : Int) (L : Int) (.slice p 0 cap))).heap.size = w.heap.size + 1 := by simp
  have HS2 : ((w.alloc (bodyC is (k : Int) (L : Int) (.slice p 0 cap))).alloc (.cells (bc zs) 23)).heap.size = w.heap.size + 1 + 1 := by simp
  have HZ0 : Hid (PAt (((w.alloc (bodyC is (k : Int) (L : Int) (.slice p 0 cap))).alloc (.cells (bc zs) 23)).alloc (.cells (bc (pageL k L 0 noS)) 23)) (w.heap.size + 1) zs) := by
    have := (PAt.new (w.alloc (bodyC is (k : Int) (L : Int) (.slice p 0 cap))) zs).later (new_below _ (.cells (bc (pageL k L 0 noS)) 23) rfl)
    rwa [HS1] at this
  have HP0 : Hid (PAt (((w.alloc (bodyC is (k : Int) (L : Int) (.slice p 0 cap))).alloc (.cells (bc zs) 23)).alloc (.cells (bc (pageL k L 0 noS)) 23)) (w.heap.size + 1 + 1) (pageL k L 0 noS)) := by
    have := PAt.new ((w.alloc (bodyC is (k : Int) (L : Int) (.slice p 0 cap))).alloc (.cells (bc zs) 23)) (pageL k L 0 noS)
    rwa [HS2] at this
  have HLp := hide (pageL_length (k := k) (L := L) (n := 0) (S := noS) (by simp [cat]))
  have hz := zero_page.1
  have z0 := bc_get (l := zs) (k := 0) (by rw [zs_length]; omega)
  have z1 := bc_get (l := zs) (k := 1) (by rw [zs_length]; omega)
  have z2 := bc_get (l := zs) (k := 2) (by rw [zs_length]; omega)
  have z3 := bc_get (l := zs) (k := 3) (by rw [zs_length]; omega)
  have z4 := bc_get (l := zs) (k := 4) (by rw [zs_length]; omega)
  have z5 := bc_get (l := zs) (k := 5) (by rw [zs_length]; omega)
  have w1 : IntKind.u8.wrap (k : Int) = (k : Int) := by rw [IntKind.wrap_u8]; omega
  have HE := hide (hd_set k 0 L hk hL noS (by omega))
  rw [← page0] at HE
  clear HS1 HS2 hk
  go_enter Try.func28, Try.ntmps28
  go_wp2
  have he := HE.out
  simp only [Int.cast_ofNat_Int] at he
  rw [he]
  clear z0 z1 z2 z3 z4 z5
  refine wp_loop_rounds 1 ?_
  rw [rounds_succ]
  go_wp2_with (first
    | (refine wp_loadP HLp.out HP0.out _ (by rfl) (by rfl) (by rfl) ?_)
    | (refine wp_storeP HLp.out zs_length HZ0.out _ _ (by rfl) (by rfl) (by rfl) (by rfl) ?_; intro W3 hp hb hk; have HP3 := hide hp; have HB3 := hide (hb _ _ HB1.out (by omega)); clear hp hb hk)
    | (exact ret_page Try.results28 rfl HLp.out HP3.out ⟨rfl, HB3.out⟩))

theorem told_nil (is : Bool) (k L : Nat) (hk : k < 256) (hL : L < 4294967296) (p : Option Addr) (cap : Nat) (w : World) :
    Calls Try.prog 23 #[bodyV is (k : Int) (L : Int) (.slice p 0 cap)] w fun e w' => e = .returned (.tuple #[.agg (bc (pageL k L 0 noS)), .int .i64 0]) ∧ Below w.heap.size w w' :=
  told_ok is k L _ 250 (by decide) (pageL k L 0 noS) (pageL_length (by simp [cat])) w (fun V _ => rroom_nil is k L p cap V) (fun V _ => rlay_nil is k L hk hL p cap V)

set_option maxHeartbeats 1000000 in
theorem rnew_nil (k L : Nat) (hL : L < 4294967296) (p : Option Addr) (cap : Nat) (w : World) :
    Calls Try.prog 19 #[.int .i64 (k : Int), .int .u32 (L : Int), .slice p 0 cap] w fun e w' => (∃ l x, l.length = 256 ∧ NewIs k L 0 noS l x ∧ e = .returned (.tuple #[.agg (bc l), .int .i64 x])) ∧ Below w.heap.size w w' := by
  have HZ := hide (PAt.new w zs)
  have HB := hide (new_below w (.cells (bc zs) 23) rfl)
  have hz := zero_page.1
  have hc : cErr 0 noS = 0 := by rw [cErr_long (fun i hi => by omega)]; rfl
  by_cases h5 : 5 < k
  · have l5 : (5 : Int) < (k : Int) := by omega
    have hbu := built_page
    have HX : Hid (NewIs k L 0 noS zs 2) := by show NewIs k L 0 noS zs 2; unfold NewIs; rw [if_pos h5]; exact ⟨rfl, rfl⟩
    clear hc h5
    go_enter Try.func19, Try.ntmps19
    go_wp2
    refine wp_loop_rounds 1 ?_
    rw [rounds_succ]
    go_wp2
    refine wp_loop_rounds 1 ?_
    rw [rounds_succ]
    go_wp2_with (first
      | (refine wp_storeP zs_length zs_length HZ.out _ _ (by rfl) (by rfl) (by rfl) (by rfl) ?_; intro W3 hp hb hk; have HP3 := hide hp; have HB3 := hide (hb _ _ HB.out (by omega)); clear hp hb hk)
      | (exact ret_page2 Try.results19 rfl rfl zs_length HP3.out ⟨⟨zs, 2, zs_length, HX.out, rfl⟩, HB3.out⟩))
  · have l5 : ¬ (5 : Int) < (k : Int) := by omega
    have HT := hide (told_nil true k L (by omega) hL p cap (w.alloc (.cells (bc zs) 23)))
    have HX : Hid (NewIs k L 0 noS (pageL k L 0 noS) 0) := by show NewIs k L 0 noS _ 0; unfold NewIs; rw [if_neg h5, if_neg (by rw [hc]; simp), if_pos (by simp [cat])]; exact ⟨rfl, rfl⟩
    have HL2 := hide (pageL_length (k := k) (L := L) (n := 0) (S := noS) (by simp [cat]))
    clear hc h5
    go_enter Try.func19, Try.ntmps19
    go_wp2
    refine wp_loop_rounds 1 ?_
    rw [rounds_succ]
    go_wp2
    refine wp_loop_rounds 1 ?_
    rw [rounds_succ]
    go_wp2_with (first
      | (go_at_call 23; with_reducible refine Calls.mono HT.out ?_; rintro e w2 ⟨rfl, hb⟩; have HZ2 := hide (HZ.out.later hb); have HB2 := hide (below_trans HB.out hb); clear hb)
      | (refine wp_storeP HL2.out zs_length HZ2.out _ _ (by rfl) (by rfl) (by rfl) (by rfl) ?_; intro W3 hp hb hk; have HP3 := hide hp; have HB3 := hide (hb _ _ HB2.out (by omega)); clear hp hb hk)
      | (exact ret_page2 Try.results19 rfl rfl HL2.out HP3.out ⟨⟨_, 0, HL2.out, HX.out, rfl⟩, HB3.out⟩))
end Go.Proofs.Ythhoeabenngiiaa
