/- The document's page, if it has room; made of cells. -/
import Derived.Test.YthhoeabenngiiaaGO
namespace Go.Proofs.Ythhoeabenngiiaa
open Go.ChangeShapes Go.WideShapes Go.ChangeAt Go.RowKit
set_option linter.unusedVariables false

theorem body_info : (Try.prog.info? 27).map (·.size) = some 4 := by kernel_rfl

set_option maxHeartbeats 1000000 in
/-- Told, where Room and Lay answer so. -/
theorem told_full (is : Bool) (k L : Int) (sv : Value) (r : Int) (hr : r < 0) (w : World)
    (HR : Hid (∀ V, Below w.heap.size w V → Calls Try.prog 9 #[.agg #[.bool is, .int .i64 k, .int .u32 L, sv]] V fun e w' => e = .returned (.int .i64 r) ∧ Below V.heap.size V w')) :
    Calls Try.prog 23 #[bodyV is k L sv] w fun e w' => e = .returned (.tuple #[.agg (bc zs), .int .i64 5]) ∧ Below w.heap.size w w' := by
  have HBb := hide (new_below w (bodyC is k L sv) rfl)
  have HZ0 := hide (PAt.new (w.alloc (bodyC is k L sv)) zs)
  have HB1 : Hid (Below w.heap.size w ((w.alloc (bodyC is k L sv)).alloc (.cells (bc zs) 23))) := below_trans HBb.out (new_below _ _ rfl)
  have hsz : (w.alloc (bodyC is k L sv)).heap.size = w.heap.size + 1 := by simp
  rw [hsz] at HZ0
  have hz := zero_page.1
  have hbu := built_page
  clear hsz
  go_enter Try.func23, Try.ntmps23
  go_wp2_with (first
    | (go_at_call 9; with_reducible refine Calls.mono (HR.out _ HB1.out) ?_; rintro e w1 ⟨rfl, hb⟩; have HZ1 := hide (HZ0.out.later hb); have HB2 := hide (below_trans HB1.out hb); clear hb)
    | (refine wp_storeP zs_length zs_length HZ1.out _ _ (by rfl) (by rfl) (by rfl) (by rfl) ?_; intro W3 hp hb hk; have HP3 := hide hp; have HB3 := hide (hb _ _ HB2.out (by omega)); clear hp hb hk)
    | (exact ret_page2 Try.results23 rfl rfl zs_length HP3.out ⟨rfl, HB3.out⟩))

set_option maxHeartbeats 1000000 in
theorem told_ok (is : Bool) (k L : Int) (sv : Value) (r : Int) (hr : ¬ r < 0) (l : List UInt8) (hl : l.length = 256) (w : World)
    (HR : Hid (∀ V, Below w.heap.size w V → Calls Try.prog 9 #[.agg #[.bool is, .int .i64 k, .int .u32 L, sv]] V fun e w' => e = .returned (.int .i64 r) ∧ Below V.heap.size V w'))
    (HY : Hid (∀ V, Below w.heap.size w V → Calls Try.prog 28 #[.agg #[.bool is, .int .i64 k, .int .u32 L, sv]] V fun e w' => e = .returned (.agg (bc l)) ∧ Below V.heap.size V w')) :
    Calls Try.prog 23 #[bodyV is k L sv] w fun e w' => e = .returned (.tuple #[.agg (bc l), .int .i64 0]) ∧ Below w.heap.size w w' := by
  have HBb := hide (new_below w (bodyC is k L sv) rfl)
  have HZ0 := hide (PAt.new (w.alloc (bodyC is k L sv)) zs)
  have HB1 : Hid (Below w.heap.size w ((w.alloc (bodyC is k L sv)).alloc (.cells (bc zs) 23))) := below_trans HBb.out (new_below _ _ rfl)
  have hsz : (w.alloc (bodyC is k L sv)).heap.size = w.heap.size + 1 := by simp
  rw [hsz] at HZ0
  have hz := zero_page.1
  have HL := hide hl
  have HC : Hid (∀ V, Below ((w.alloc (bodyC is k L sv)).alloc (.cells (bc zs) 23)).heap.size ((w.alloc (bodyC is k L sv)).alloc (.cells (bc zs) 23)) V → V.cell? ⟨w.heap.size, 0, none⟩ = some (.bool is) ∧ V.cell? ⟨w.heap.size, 1, none⟩ = some (.int .i64 k) ∧ V.cell? ⟨w.heap.size, 2, none⟩ = some (.int .u32 L) ∧ V.cell? ⟨w.heap.size, 3, none⟩ = some sv) := fun V h => by
    have hb := below_trans (new_below (w.alloc (bodyC is k L sv)) (.cells (bc zs) 23) rfl) h
    have c : ∀ i v, #[.bool is, .int .i64 k, .int .u32 L, sv][i]? = some v → V.cell? ⟨w.heap.size, i, none⟩ = some v := fun i v hv => cell_later hb (by rw [cell_of_row _ _ _ _ _ _ (heap_alloc_new w _)]; exact hv)
    exact ⟨c 0 _ rfl, c 1 _ rfl, c 2 _ rfl, c 3 _ rfl⟩
  clear hsz hl
  go_enter Try.func23, Try.ntmps23
  go_wp2_with (first
    | (go_at_call 9; with_reducible refine Calls.mono (HR.out _ HB1.out) ?_; rintro e w1 ⟨rfl, hb⟩; have HZ1 := hide (HZ0.out.later hb); obtain ⟨c0, c1, c2, c3⟩ := HC.out _ hb; have HB2 := hide (below_trans HB1.out hb); clear hb)
    | (go_at_call 28; with_reducible refine Calls.mono (HY.out _ HB2.out) ?_; rintro e w2 ⟨rfl, hb⟩; have HZ2 := hide (HZ1.out.later hb); have HB3 := hide (below_trans HB2.out hb); clear hb)
    | (refine wp_storeP HL.out zs_length HZ2.out _ _ (by rfl) (by rfl) (by rfl) (by rfl) ?_; intro W3 hp hb hk; have HP3 := hide hp; have HB4 := hide (hb _ _ HB3.out (by omega)); clear hp hb hk)
    | (exact ret_page2 Try.results23 rfl rfl HL.out HP3.out ⟨rfl, HB4.out⟩))

/-- What Told answers. -/
def ToldIs (k L n : Nat) (S : Nat → ByteArray) (l : List UInt8) (e : Int) : Prop := if n + (cat S n).length ≤ 250 then l = pageL k L n S ∧ e = 0 else l = zs ∧ e = 5

theorem told_walk (is : Bool) (k L : Nat) (hk : k < 256) (hL : L < 4294967296) (b o n cap : Nat) (S : Nat → ByteArray) (hs : n + (cat S n).length ≤ 140737488355328) (w : World) (h : StrAt w b o n S) :
    Calls Try.prog 23 #[bodyV is (k : Int) (L : Int) (.slice (some ⟨b, o, none⟩) n cap)] w fun e w' => (∃ l x, l.length = 256 ∧ ToldIs k L n S l x ∧ e = .returned (.tuple #[.agg (bc l), .int .i64 x])) ∧ Below w.heap.size w w' := by
  by_cases hr : n + (cat S n).length ≤ 250
  · refine (told_ok is k L _ _ (by omega) (pageL k L n S) (pageL_length hr) w (fun V hV => rroom_walk is k L b o n cap S hs V (h.later hV)) (fun V hV => rlay_walk is k L hk hL b o n cap S hr V (h.later hV))).mono fun e w' ⟨he, hb⟩ => ⟨⟨_, _, pageL_length hr, ?_, he⟩, hb⟩
    unfold ToldIs
    rw [if_pos hr]
    exact ⟨rfl, rfl⟩
  · refine (told_full is k L _ _ (by omega) w (fun V hV => rroom_walk is k L b o n cap S hs V (h.later hV))).mono fun e w' ⟨he, hb⟩ => ⟨⟨_, _, zs_length, ?_, he⟩, hb⟩
    unfold ToldIs
    rw [if_neg hr]
    exact ⟨rfl, rfl⟩
end Go.Proofs.Ythhoeabenngiiaa
