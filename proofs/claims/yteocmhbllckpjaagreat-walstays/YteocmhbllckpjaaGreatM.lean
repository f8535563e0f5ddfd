/- Data laid into a file, and the changes noted: the plain part, and the steps on a disk in memory. -/
import Derived.Test.YteocmhbllckpjaaGreatL
namespace Go.Proofs.YteocmhbllckpjaaGreat
open Go.ChangeShapes Go.WideShapes Go.ChangeAt Go.RowKit
open Go.ChangeMaps (setBlock)
set_option linter.unusedVariables false

/-- The bytes, with 0 behind them up to n of them. -/
def grownTo (l : List UInt8) (n : Nat) : List UInt8 := if l.length < n then l ++ List.replicate (n - l.length) 0 else l
def wseen (l : List UInt8) (at_ : Nat) (d : List UInt8) : List UInt8 := splice (grownTo l (at_ + d.length)) at_ d
def secs (nm : ByteArray) (l : List UInt8) (k0 n : Nat) : List Ch := (List.range' k0 n).map fun (k : Nat) => Ch.mk nm (k : Int) 0 (secOf l k)
def wsize (nm : ByteArray) (l : List UInt8) (n : Nat) : List Ch := if l.length < n then [Ch.mk nm (-1) (n : Int) (List.replicate 64 0)] else []
def wchs (nm : ByteArray) (l : List UInt8) (at_ : Nat) (d : List UInt8) : List Ch := wsize nm l (at_ + d.length) ++ secs nm (wseen l at_ d) (at_ / 64) ((at_ + d.length + 63) / 64 - at_ / 64)

theorem secs_succ (nm : ByteArray) (l : List UInt8) (k0 n : Nat) : secs nm l k0 (n + 1) = secs nm l k0 n ++ [Ch.mk nm ((k0 + n : Nat) : Int) 0 (secOf l (k0 + n))] := by
  simp [secs, List.range'_concat]
theorem secs_64 (nm : ByteArray) (l : List UInt8) (k0 n : Nat) : ∀ c ∈ secs nm l k0 n, c.data.length = 64 := by
  intro c hc
  simp only [secs, List.mem_map] at hc
  obtain ⟨k, _, rfl⟩ := hc
  exact length_secOf _ _
theorem length_secs (nm : ByteArray) (l : List UInt8) (k0 n : Nat) : (secs nm l k0 n).length = n := by simp [secs]
theorem length_grownTo (l : List UInt8) (n : Nat) : (grownTo l n).length = max l.length n := by
  unfold grownTo; split
  · simp; omega
  · omega
theorem length_wseen (l : List UInt8) (at_ : Nat) (d : List UInt8) : (wseen l at_ d).length = max l.length (at_ + d.length) := by
  unfold wseen
  rw [length_splice _ _ _ (by rw [length_grownTo]; omega), length_grownTo]
theorem wsize_64 (nm : ByteArray) (l : List UInt8) (n : Nat) : ∀ c ∈ wsize nm l n, c.data.length = 64 := by
  intro c hc
  unfold wsize at hc
  split at hc
  · simp at hc; subst hc; simp
  · cases hc

theorem upd_upd (fs : List FL) (i : Nat) (g h : FL → FL) (hg : ∀ f, (g f).born = f.born) : upd (upd fs i g) i h = upd fs i (fun f => h (g f)) := by
  simp only [upd, List.map_map]
  apply List.map_congr_left
  intro f hf
  simp only [Function.comp]
  by_cases e : f.born = i
  · rw [if_pos e, if_pos (by rw [hg, e]), if_pos e]
  · rw [if_neg e, if_neg e, if_neg e]

theorem upd_self {fs : List FL} (hn : (fs.map (·.born)).Nodup) {f0 : FL} (hf : f0 ∈ fs) (g : FL → FL) (hg : g f0 = f0) : upd fs f0.born g = fs := by
  simp only [upd]
  conv => rhs; rw [← List.map_id fs]
  apply List.map_congr_left
  intro f hff
  by_cases e : f.born = f0.born
  · have : f = f0 := FL.inj hn hff hf e
    subst this; simp [hg]
  · simp [e]

theorem upd_congr {fs : List FL} (hn : (fs.map (·.born)).Nodup) {f0 : FL} (hf : f0 ∈ fs) (g h : FL → FL) (hg : g f0 = h f0) : upd fs f0.born g = upd fs f0.born h := by
  simp only [upd]
  apply List.map_congr_left
  intro f hff
  by_cases e : f.born = f0.born
  · have : f = f0 := FL.inj hn hff hf e
    subst this; simp [hg]
  · simp [e]

theorem mem_upd_self {fs : List FL} {f0 : FL} (hf : f0 ∈ fs) (g : FL → FL) : g f0 ∈ upd fs f0.born g := by
  simp only [upd, List.mem_map]
  exact ⟨f0, hf, by simp⟩

theorem look_upd {fs : List FL} (hn : (fs.map (·.born)).Nodup) {nm : ByteArray} {f0 : FL} (hl : look fs nm = some f0) (g : FL → FL) (hg : ∀ f, (g f).name = f.name) : look (upd fs f0.born g) nm = some (g f0) := by
  have hm := List.mem_of_find?_eq_some hl
  unfold look at *
  rw [upd, List.find?_map]
  have e : ((fun f : FL => nm == f.name) ∘ fun f => if f.born = f0.born then g f else f) = fun f => nm == f.name := by
    funext f; simp only [Function.comp]; split
    · rw [hg]
    · rfl
  rw [e, hl]
  simp

theorem put_rep (w : World) (base b : Nat) (D : DS) (who : Nat → Nat) (R : Rep w base b D who) (f : FL) (hf : f ∈ D.fs) (d : List UInt8) (at_ : Nat) (ad : Addr) (dc : Nat) (hat : at_ < f.seen.length) (hl : f.seen.length ≤ 1048576)
    (hd : ∀ j u, (bcs d)[j]? = some u → w.cell? (ad.add j) = some u) :
    Calls Tryz.prog 98 #[.pointer (some ⟨f.eb, 0, none⟩), .int .i64 at_, .slice (some ad) d.length dc] w fun e w' => e = .returned (.tuple #[]) ∧ Below base w w' ∧
      ∃ who', Rep w' base b { D with fs := upd D.fs f.born fun x => { x with seen := splice f.seen at_ (d.take (f.seen.length - at_)) } } who' := by
  refine (put_at w f.eb 0 #[f.sv, f.kv] 119 base f.sv f.seen d at_ ad dc (R.ent f hf) rfl (R.osv f hf) hat hl hd).mono ?_
  rintro e w' ⟨rfl, ho, hg⟩
  rcases (R.osv f hf).2 with ⟨hv, h0⟩ | ⟨g, cap, cur, hv, hbg, _⟩
  · omega
  · have hvg : f.sv.ownBlock = some g := by rw [hv]; rfl
    have hO : Only (f.eb :: f.sv.ownBlock.toList) w w' := (Only.of_grown hg).mono (fun j hj => List.mem_cons_of_mem _ hj)
    have hB : Blk w' f.eb #[f.sv, f.kv] 119 := (Only.of_grown hg).blk (R.ent f hf) (fun hm => by have h1 := R.ws f hf f.eb (by simpa using hm); have h2 := R.we f hf; omega)
    have R' := R.setS hf f.sv _ hvg (.inl hvg) hO hB ho
    refine ⟨rfl, (Only.of_grown hg).below R.base_le (fun j hj => (own_lt (R.osv f hf) j (by simpa using hj)).1), (fun k => if k = g then 4 + 3 * f.born else who k), ?_⟩
    rw [upd_congr R.nodup hf (fun x => { x with seen := splice f.seen at_ (d.take (f.seen.length - at_)) }) (fun x => { x with sv := f.sv, seen := splice f.seen at_ (d.take (f.seen.length - at_)) }) rfl]
    exact R'

theorem bytes_cells (w : World) (s : ByteArray) : ∀ j u, (bcs s.data.toList)[j]? = some u → (Lib.bytesWorld w 5 s).cell? ((⟨w.heap.size, 0, none⟩ : Addr).add j) = some u := by
  intro j u hj
  rw [Addr.add_lit, World.cell?, Lib.bytesWorld_at_new]
  simp only [Lib.bytesCells]
  have hlt : j < s.size := by
    have := (List.getElem?_eq_some_iff.1 hj).1
    simpa [bcs] using this
  simp only [Array.getElem?_append, Array.size_map, Nat.zero_add]
  rw [if_neg (by simp), if_pos (show j < s.data.size from hlt)]
  simpa [bcs] using hj

theorem bytes_grown (w : World) (s : ByteArray) : w.grownBy (Lib.bytesWorld w 5 s) none :=
  ⟨rfl, rfl, rfl, by simp [Lib.bytesWorld, World.freeze, World.alloc, World.drew, -World.alloc_eq, -World.drew_eq], fun k hk _ => Lib.bytesWorld_at_old w 5 s k hk⟩


/-- A change noted in the loop of 'lay', beside two boxes. -/
theorem round_done {w0 wr w5 w6 : World} {base b nb sb : Nat} {Dk : DS} {whok : Nat → Nat} (hBr : Below base w0 wr) (Rk : Rep wr base b Dk whok) {X : Array Value} (hg5 : wr.drew.grownBy w5 none) (v6 : Value) (c : Ch) (hc64 : c.data.length = 64)
    (ho : w6.ownsRow base 112 67 v6 (Dk.chs ++ [c]).length (chcells (Dk.chs ++ [c]))) (hg6 : (w5.alloc (.cells X 112)).grownBy w6 Dk.cv.ownBlock) {q : Nat} (hq1 : v6.ownBlock = some q) (hq2 : Dk.cv.ownBlock = some q ∨ (w5.alloc (.cells X 112)).heap.size ≤ q)
    (hbn : b ≠ nb ∧ b ≠ sb) (hcr : ∀ g, Dk.cv.ownBlock = some g → g ≠ nb ∧ g ≠ sb) {x y : Value} (hn : wr.cell? ⟨nb, 0, none⟩ = some x) (hs : wr.cell? ⟨sb, 0, none⟩ = some y) :
    ∃ who', Below base w0 (w6.setCell ⟨b, 1, none⟩ v6) ∧ Rep (w6.setCell ⟨b, 1, none⟩ v6) base b { Dk with cv := v6, chs := Dk.chs ++ [c] } who' ∧ (w6.setCell ⟨b, 1, none⟩ v6).cell? ⟨nb, 0, none⟩ = some x ∧ (w6.setCell ⟨b, 1, none⟩ v6).cell? ⟨sb, 0, none⟩ = some y ∧
      ∀ g, v6.ownBlock = some g → g ≠ nb ∧ g ≠ sb := by
  have hnlt := World.block_lt_of_cell? wr _ hn
  have hslt := World.block_lt_of_cell? wr _ hs
  have hga : wr.grownBy (w5.alloc (.cells X 112)) none := grown_trans' (a := wr) ⟨hg5.os, hg5.tape, hg5.output, hg5.size, hg5.block⟩ (World.grownBy_alloc _ _ _)
  have R5 := Rk.keep hga
  have hsz := hga.size
  obtain ⟨N1, N2⟩ := note_done R5 hg6 v6 (Dk.chs ++ [c]) ho hq1 hq2 (fun c' hc => by
    rcases List.mem_append.1 hc with h | h
    · exact R5.c64 c' h
    · obtain rfl : c' = c := by simpa using h
      exact hc64)
  have cells : ∀ k z, b ≠ k → (∀ g, Dk.cv.ownBlock = some g → g ≠ k) → wr.cell? ⟨k, 0, none⟩ = some z → (w6.setCell ⟨b, 1, none⟩ v6).cell? ⟨k, 0, none⟩ = some z := fun k z hbk hck hz => by
    have h1 := hga.cell hz (by simp)
    have h2 := hg6.cell h1 (fun e => hck k e.symm rfl)
    rw [← h2]
    exact World.cell?_of_block (Below.heap_setCell _ _ _ _ (by exact fun e => hbk e.symm))
  refine ⟨_, (hBr.trans ((Only.of_grown hga).below Rk.base_le (by simp))).trans N2, N1, cells nb x hbn.1 (fun g hg => (hcr g hg).1) hn, cells sb y hbn.2 (fun g hg => (hcr g hg).2) hs, fun g hg => ?_⟩
  rw [hq1] at hg
  obtain rfl := Option.some.inj hg
  rcases hq2 with h | h
  · exact hcr q h
  · exact ⟨by have : nb < wr.heap.size := hnlt; omega, by have : sb < wr.heap.size := hslt; omega⟩

end Go.Proofs.YteocmhbllckpjaaGreat
