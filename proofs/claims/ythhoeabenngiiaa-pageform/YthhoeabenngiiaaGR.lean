/- Some answers that the document fixes. -/
import Derived.Test.YthhoeabenngiiaaGM
namespace Go.Proofs.Ythhoeabenngiiaa
open Go.ChangeShapes Go.WideShapes Go.ChangeAt Go.RowKit
set_option linter.unusedVariables false

def aS : Nat → ByteArray
  | 0 => ⟨#[97, 98]⟩
  | _ => ⟨#[99]⟩
/-- The page of the two. -/
def aP : List UInt8 := [1, 2, 0, 0, 0, 7, 2, 1, 97, 98, 99] ++ zeros 245
theorem aP_eq : pageL 1 7 2 aS = aP := by decide +kernel
theorem aP_length : aP.length = 256 := by decide +kernel
theorem aP_zero : ∀ i : Fin 256, 11 ≤ i.val → byt aP i.val = 0 := by decide +kernel
theorem aP_end : endN aP = 11 := by decide +kernel
theorem aP_ok : okB aP := by
  refine ⟨by decide +kernel, by decide +kernel, ?_, by decide +kernel, fun i h1 h2 => aP_zero ⟨i, h2⟩ (by rw [aP_end] at h1; exact h1)⟩
  have e : byt aP 1 = 2 := by decide +kernel
  rw [e]
  intro i hi
  rcases (by omega : i = 0 ∨ i = 1) with rfl | rfl
  · exact ⟨by decide +kernel, by decide +kernel⟩
  · exact ⟨by decide +kernel, by decide +kernel⟩
theorem aS_err : cErr 2 aS = 0 := by
  unfold cErr
  rw [if_neg]
  · rfl
  · rintro ⟨i, hi, h⟩
    rcases (by omega : i = 0 ∨ i = 1) with rfl | rfl <;> cases h
theorem aS_new {l : List UInt8} {x : Int} (h : NewIs 1 7 2 aS l x) : l = aP ∧ x = 0 := by
  unfold NewIs at h
  rw [if_neg (by decide), if_neg (by rw [aS_err]; simp), if_pos (by decide +kernel), aP_eq] at h
  exact h
theorem aP_pl : plE aP 2 ((cntV aP : Int) - 1) = 4 := by
  have e : cntV aP = 2 := (if_pos aP_ok).trans (by decide +kernel)
  unfold plE
  rw [if_pos aP_ok, e, if_pos (.inr (by decide))]
theorem aP_room : roomV aP = 245 := (if_pos aP_ok).trans (by decide +kernel)

theorem wp_loadPG {ops : Array Oper} {rest : List Oper} {o : Oper} {a : Act} {Q : Exit → Act → World → Prop} {w : World} {g : Nat} {l : List UInt8} (hl : l.length = 256) (hg : PAt w g l) (x : Operand)
    (hw : Region.wanted o (yielded ops a.tmps) = true) (ho : o.op = .load 23 x) (hx : a.eval x = .pointer (some ⟨g, 0, none⟩)) (h : wpList Try.prog ops Q rest (a.put o.dst (.agg (bc l))) w) : wpList Try.prog ops Q (o :: rest) a w := by
  refine wpList_step fun K hK => ?_
  rw [if_pos hw]
  exact wp_load_row 23 x ho g hx 23 (bc l) (0, 0) _ hg page_arr rfl (page_size hl) (hK _ _ h)

theorem str2 {w : World} : StrAt (w.alloc (.cells #[.string ⟨#[97, 98]⟩, .string ⟨#[99]⟩] 9)) w.heap.size 0 2 aS := by
  intro i hi
  rcases (by omega : i = 0 ∨ i = 1) with rfl | rfl
  · rw [cell_of_row _ _ _ _ _ _ (heap_alloc_new w _)]; rfl
  · rw [cell_of_row _ _ _ _ _ _ (heap_alloc_new w _)]; rfl

set_option maxHeartbeats 2000000 in
theorem awake_walk (w : World) : Calls Try.prog 17 #[] w fun e w' => e = .returned (.bool true) ∧ Below w.heap.size w w' := by
  have HB0 := hide (new_below w (.cells #[.string ⟨#[97, 98]⟩, .string ⟨#[99]⟩] 9) rfl)
  have HN : Hid (Calls Try.prog 18 #[.int .u8 1, .int .u32 7, .slice (some ⟨w.heap.size, 0, none⟩) 2 2] (w.alloc (.cells #[.string ⟨#[97, 98]⟩, .string ⟨#[99]⟩] 9)) fun e w' => e = .returned (.tuple #[.agg (bc aP), .int .i64 0]) ∧ Below (w.alloc (.cells #[.string ⟨#[97, 98]⟩, .string ⟨#[99]⟩] 9)).heap.size (w.alloc (.cells #[.string ⟨#[97, 98]⟩, .string ⟨#[99]⟩] 9)) w') :=
    (new_ok 1 7 (by decide) (by decide) w.heap.size 0 2 2 aS (by decide) aS_err _ str2).mono fun e w' ⟨⟨l, x, hl, hx, he⟩, hb⟩ => by
      obtain ⟨rfl, rfl⟩ := aS_new hx
      exact ⟨he, hb⟩
  have HC : Hid (∀ V, Calls Try.prog 15 #[.agg (bc aP), .int .i64 2] V fun e w' => e = .returned (.tuple #[.string ⟨#[]⟩, .int .i64 4]) ∧ Below V.heap.size V w') := fun V => cell_bad aP aP_length 2 4 aP_pl (by decide) V
  have HM : Hid (∀ V, Calls Try.prog 14 #[.agg (bc aP)] V fun e w' => e = .returned (.int .i64 245) ∧ Below V.heap.size V w') := fun V => by have := room_walk aP aP_length V; rw [aP_room] at this; exact this
  have HL := hide aP_length
  have hz := zero_page.1
  have HF : Hid (∀ V g, PAt V g aP → V.cell? ⟨g, 0, none⟩ = some (.int .u8 1) ∧ V.cell? ⟨g, 1, none⟩ = some (.int .u8 2) ∧ V.cell? ⟨g, 5, none⟩ = some (.int .u8 7) ∧ V.cell? ⟨g, 6, none⟩ = some (.int .u8 2) ∧ V.cell? ⟨g, 7, none⟩ = some (.int .u8 1) ∧ V.cell? ⟨g, 8, none⟩ = some (.int .u8 97) ∧ V.cell? ⟨g, 10, none⟩ = some (.int .u8 99)) := fun V g h => by
    have c : ∀ k, k < 256 → V.cell? ⟨g, k, none⟩ = some (.int .u8 (byt aP k : Int)) := fun k hk => h.cell (by rw [aP_length]; exact hk)
    have b : ∀ k v, byt aP k = v → k < 256 → V.cell? ⟨g, k, none⟩ = some (.int .u8 (v : Int)) := fun k v hv hk => by rw [← hv]; exact c k hk
    exact ⟨b 0 1 (by decide +kernel) (by decide), b 1 2 (by decide +kernel) (by decide), b 5 7 (by decide +kernel) (by decide), b 6 2 (by decide +kernel) (by decide), b 7 1 (by decide +kernel) (by decide), b 8 97 (by decide +kernel) (by decide), b 10 99 (by decide +kernel) (by decide)⟩
  go_enter Try.func17, Try.ntmps17
  go_wp2_with (first
    | (go_at_call 18; with_reducible refine Calls.mono HN.out ?_; rintro e w1 ⟨rfl, hb⟩; have HB1 := hide (below_trans HB0.out (below_trans hb (new_below w1 (.cells (bc zs) 23) rfl))); have HZ1 := hide (PAt.new w1 zs); have HG1 := hide (below_trans HB0.out hb).size; clear hb)
    | (refine wp_storeP HL.out zs_length HZ1.out _ _ (by rfl) (by rfl) (by rfl) (by rfl) ?_; intro W3 hp hb hk; have HP3 := hide hp; have HB3 := hide (hb _ _ HB1.out HG1.out); clear hp hb hk)
    | (refine wp_loadP HL.out HP3.out _ (by rfl) (by rfl) (by rfl) ?_)
    | (go_at_call 15; with_reducible refine Calls.mono (HC.out _) ?_; rintro e w4 ⟨rfl, hb⟩; have HP4 := hide (HP3.out.later hb); obtain ⟨c0, c1, c5, c6, c7, c8, c10⟩ := HF.out _ _ HP4.out; have HB4 := hide (below_trans HB3.out hb); clear hb)
    | (refine wp_loadPG HL.out HP4.out _ (by rfl) (by rfl) (by rfl) ?_)
    | (go_at_call 14; with_reducible refine Calls.mono (HM.out _) ?_; rintro e w5 ⟨rfl, hb⟩; have HB5 := hide (below_trans HB4.out hb); clear hb))
  go_ret
  exact ⟨rfl, HB5.out⟩
end Go.Proofs.Ythhoeabenngiiaa
