/- Laying data into a file, with what it leaves alone. -/
import Derived.Test.YteocmhbllckpjaaGreatL2
namespace Go.Proofs.YteocmhbllckpjaaGreat
open Go.ChangeShapes Go.WideShapes Go.ChangeAt Go.RowKit
open Go.ChangeMaps (setBlock)
set_option linter.unusedVariables false

theorem hideJ {p : Prop} (h : p) : Hid p := h
theorem put_moves (w : World) (base b : Nat) (D : DS) (who : Nat → Nat) (R : Rep w base b D who) (f : FL) (hf : f ∈ D.fs) (d : List UInt8) (at_ : Nat) (ad : Addr) (dc : Nat) (hat : at_ < f.seen.length) (hl : f.seen.length ≤ 1048576)
    (hd : ∀ j u, (bcs d)[j]? = some u → w.cell? (ad.add j) = some u) :
    Calls Tryz.prog 98 #[.pointer (some ⟨f.eb, 0, none⟩), .int .i64 at_, .slice (some ad) d.length dc] w fun e w' => e = .returned (.tuple #[]) ∧
      ∃ who', RM w D w' base b { D with fs := upd D.fs f.born fun x => { x with seen := splice f.seen at_ (d.take (f.seen.length - at_)) } } who' := by
  refine (put_at w f.eb 0 #[f.sv, f.kv] 119 base f.sv f.seen d at_ ad dc (R.ent f hf) rfl (R.osv f hf) hat hl hd).mono ?_
  rintro e w' ⟨rfl, ho, hg⟩
  rcases (R.osv f hf).2 with ⟨hv, h0⟩ | ⟨g, cap, cur, hv, hbg, _⟩
  · omega
  · have hvg : f.sv.ownBlock = some g := by rw [hv]; rfl
    have hO : Only (f.eb :: f.sv.ownBlock.toList) w w' := (Only.of_grown hg).mono (fun j hj => List.mem_cons_of_mem _ hj)
    have hB : Blk w' f.eb #[f.sv, f.kv] 119 := (Only.of_grown hg).blk (R.ent f hf) (fun hm => by have h1 := R.ws f hf f.eb (by simpa using hm); have h2 := R.we f hf; omega)
    have R' := R.setS hf f.sv _ hvg (.inl hvg) hO hB ho
    have M' : Moves b D w { D with fs := upd D.fs f.born fun x => { x with sv := f.sv, seen := splice f.seen at_ (d.take (f.seen.length - at_)) } } w' := Moves.seenD hf (fun k hk => .inl hk) hO
    refine ⟨rfl, (fun k => if k = g then 4 + 3 * f.born else who k), ?_⟩
    rw [upd_congr R.nodup hf (fun x => { x with seen := splice f.seen at_ (d.take (f.seen.length - at_)) }) (fun x => { x with sv := f.sv, seen := splice f.seen at_ (d.take (f.seen.length - at_)) }) rfl]
    exact ⟨R', M'⟩
theorem round_moves {D0 : DS} {w0 wr w5 w6 : World} {base b nb sb : Nat} {Dk : DS} {whok : Nat → Nat} (hBr : Moves b D0 w0 Dk wr) (Rk : Rep wr base b Dk whok) {X : Array Value} (hg5 : wr.drew.grownBy w5 none) (v6 : Value) (c : Ch) (hc64 : c.data.length = 64)
    (ho : w6.ownsRow base 112 67 v6 (Dk.chs ++ [c]).length (chcells (Dk.chs ++ [c]))) (hg6 : (w5.alloc (.cells X 112)).grownBy w6 Dk.cv.ownBlock) {q : Nat} (hq1 : v6.ownBlock = some q) (hq2 : Dk.cv.ownBlock = some q ∨ (w5.alloc (.cells X 112)).heap.size ≤ q)
    (hbn : b ≠ nb ∧ b ≠ sb) (hcr : ∀ g, Dk.cv.ownBlock = some g → g ≠ nb ∧ g ≠ sb) {x y : Value} (hn : wr.cell? ⟨nb, 0, none⟩ = some x) (hs : wr.cell? ⟨sb, 0, none⟩ = some y) :
    ∃ who', RM w0 D0 (w6.setCell ⟨b, 1, none⟩ v6) base b { Dk with cv := v6, chs := Dk.chs ++ [c] } who' ∧ (w6.setCell ⟨b, 1, none⟩ v6).cell? ⟨nb, 0, none⟩ = some x ∧ (w6.setCell ⟨b, 1, none⟩ v6).cell? ⟨sb, 0, none⟩ = some y ∧
      ∀ g, v6.ownBlock = some g → g ≠ nb ∧ g ≠ sb := by
  have hnlt := World.block_lt_of_cell? wr _ hn
  have hslt := World.block_lt_of_cell? wr _ hs
  have hga : wr.grownBy (w5.alloc (.cells X 112)) none := grown_trans' (a := wr) ⟨hg5.os, hg5.tape, hg5.output, hg5.size, hg5.block⟩ (World.grownBy_alloc _ _ _)
  have R5 := Rk.keep hga
  have hsz := hga.size
  obtain ⟨N1, N2⟩ := note_moves R5 hg6 v6 (Dk.chs ++ [c]) ho hq1 hq2 (fun c' hc => by
    rcases List.mem_append.1 hc with h | h
    · exact R5.c64 c' h
    · obtain rfl : c' = c := by simpa using h
      exact hc64)
  have cells : ∀ k z, b ≠ k → (∀ g, Dk.cv.ownBlock = some g → g ≠ k) → wr.cell? ⟨k, 0, none⟩ = some z → (w6.setCell ⟨b, 1, none⟩ v6).cell? ⟨k, 0, none⟩ = some z := fun k z hbk hck hz => by
    have h1 := hga.cell hz (by simp)
    have h2 := hg6.cell h1 (fun e => hck k e.symm rfl)
    rw [← h2]
    exact World.cell?_of_block (Below.heap_setCell _ _ _ _ (by exact fun e => hbk e.symm))
  refine ⟨_, ⟨N1, (hBr.trans (Moves.grown hga)).trans N2⟩, cells nb x hbn.1 (fun g hg => (hcr g hg).1) hn, cells sb y hbn.2 (fun g hg => (hcr g hg).2) hs, fun g hg => ?_⟩
  rw [hq1] at hg
  obtain rfl := Option.some.inj hg
  rcases hq2 with h | h
  · exact hcr q h
  · exact ⟨by have : nb < wr.heap.size := hnlt; omega, by have : sb < wr.heap.size := hslt; omega⟩

set_option maxHeartbeats 2000000 in
set_option maxRecDepth 100000 in
theorem lay_moves (w : World) (base b : Nat) (D : DS) (who : Nat → Nat) (R : Rep w base b D who) (nm : ByteArray) (s : ByteArray) (at_ : Nat) (hs : 0 < s.size) (hend : at_ + s.size ≤ 1048576)
    (hlens : ∀ f ∈ D.fs, f.seen.length ≤ 1048576) (hch : D.chs.length + 20000 ≤ 1000000000) :
    Calls Tryz.prog 72 #[.pointer (some ⟨b, 0, none⟩), .string nm, .int .i64 at_, .string s] w fun e w' => e = .returned (.tuple #[]) ∧
      ∃ f1 D1 v' cv' who', Entered D nm f1 D1 ∧ RM w D w' base b { D1 with fs := upd D1.fs f1.born fun x => { x with sv := v', seen := wseen f1.seen at_ s.data.toList }, cv := cv', chs := D1.chs ++ wchs nm f1.seen at_ s.data.toList } who' := by
  have E := entry_moves w base b D who R nm
  obtain ⟨en, hen0⟩ : ∃ en : Nat, en = at_ + s.size := ⟨_, rfl⟩
  have hen : (at_ : Int) + (s.size : Int) = (en : Int) := by omega
  have HEN : Hid (en = at_ + s.size) := hen0
  have hen1 : en ≤ 1048576 := by omega
  have hat1 : at_ < en := by omega
  have HS : Hid (s.size = s.data.toList.length) := by show s.size = _; rw [Array.length_toList]; rfl
  have HL : Hid (∀ f ∈ D.fs, f.seen.length ≤ 1048576) := hlens
  clear hlens R hen0 hend
  have hcv := fun W => Lib.run_convert_string_bytes (P := Tryz.prog) W 9 62 5 s (u := .string) Tryz.underlying9 Tryz.underlying62 Tryz.underlying5
  go_enter Tryz.func72, Tryz.ntmps72
  go_wp2_with (go_at_call 113; refine E.mono ?_; rintro e w1 ⟨f1, D1, who1, rfl, hRM1, hl1, hE1⟩; have R1 := hRM1.rep; have hB1 := hRM1.mv; clear hRM1)
  have hf1 : f1 ∈ D1.fs := List.mem_of_find?_eq_some hl1
  have hfl : f1.seen.length ≤ 1048576 := by
    rcases hE1 with ⟨h, _⟩ | ⟨_, eb, h, _⟩
    · exact HL.out f1 (List.mem_of_find?_eq_some h)
    · rw [h]; simp [FL.fresh]
  have hch1 : D1.chs.length + 20000 ≤ 1000000000 := by
    rcases hE1 with ⟨_, h⟩ | ⟨_, eb, _, h⟩
    · rw [h]; exact hch
    · rw [h]; exact hch
  have HE1 : Hid (Entered D nm f1 D1) := hE1
  obtain ⟨a1, c1, hv1⟩ := ownsRow_form (R1.osv f1 hf1)
  have hc1 : w1.cell? ⟨f1.eb, 0, none⟩ = some (.slice a1 f1.seen.length c1) := by rw [(R1.ent f1 hf1).cell 0, ← hv1]; rfl
  have HL1 : Hid (look D1.fs nm = some f1) := hl1
  clear E hE1 hv1 hl1 hch
  obtain ⟨d, hd0⟩ : ∃ d, d = s.data.toList := ⟨_, rfl⟩
  have HD0 : Hid (d = s.data.toList) := hd0
  have hdl : d.length = s.size := by rw [hd0, ← HS.out]
  have HDL : Hid (d.length = s.size) := hdl
  clear hd0 hdl
  go_upto_if 25 with (first
    | (go_at_call 79; refine (size_of w1 f1.eb 0 a1 f1.seen.length c1 hc1).mono ?_; rintro e w2 ⟨rfl, rfl⟩))
  go_cut [] from 12 (fun W => ∃ v2 cv2 who2, RM w D W base b { D1 with fs := upd D1.fs f1.born fun x => { x with sv := v2, seen := grownTo f1.seen en }, cv := cv2, chs := D1.chs ++ wsize nm f1.seen en } who2)
  case first =>
    by_cases hlong : f1.seen.length < en
    · have hlong' : (f1.seen.length : Int) < (en : Int) := by omega
      go_wp2_with (first
        | (go_at_call 114; refine (resize_moves w1 base b D1 who1 R1 nm f1 hf1 HL1.out en hlong hen1 (by omega)).mono ?_; rintro e w2 ⟨rfl, v2, cv2, who2, hRM2⟩; have R2 := hRM2.rep; have hB2 := hRM2.mv; clear hRM2))
      go_meet
      case rel => exact ⟨v2, cv2, who2, by simpa [grownTo, wsize, hlong] using R2, by simpa [grownTo, wsize, hlong] using hB1.trans hB2⟩
    · have hlong' : ¬ (f1.seen.length : Int) < (en : Int) := by omega
      go_wp2
      go_meet
      case rel =>
        refine ⟨f1.sv, D1.cv, who1, ?_⟩
        rw [upd_self R1.nodup hf1 _ (by simp [grownTo, hlong])]
        simpa [wsize, hlong] using RM.mk R1 hB1
  case rest =>
    obtain ⟨v2, cv2, who2, R2', hB02⟩ := hcut
    obtain ⟨w2, hw2⟩ : ∃ w2, w2 = wc := ⟨_, rfl⟩
    subst hw2
    go_wp2_with fail
    have hln : (grownTo f1.seen en).length = max f1.seen.length en := length_grownTo _ _
    have hf2 := mem_upd_self hf1 (fun x : FL => { x with sv := v2, seen := grownTo f1.seen en })
    have P50 := put_moves (Lib.bytesWorld w2 5 s) base b _ who2 (R2'.keep (bytes_grown w2 s)) _ hf2 s.data.toList at_ ⟨w2.heap.size, 0, none⟩ (grownCap w2 s.size 0 5) (by show at_ < (grownTo f1.seen en).length; omega) (by show (grownTo f1.seen en).length ≤ _; omega) (bytes_cells w2 s)
    have hB22 := hB02.trans (Moves.grown (bytes_grown w2 s))
    obtain ⟨L, hL⟩ : ∃ L, L = wseen f1.seen at_ d := ⟨_, rfl⟩
    have hLe : splice (grownTo f1.seen en) at_ (s.data.toList.take ((grownTo f1.seen en).length - at_)) = L := by
      rw [hL, wseen, HDL.out, ← HEN.out, ← HD0.out, List.take_of_length_le (by rw [HDL.out]; have := HEN.out; omega)]
    have hLl : L.length = max f1.seen.length en := by rw [hL, length_wseen, HDL.out, ← HEN.out]
    have P50' : Calls Tryz.prog 98 #[.pointer (some ⟨f1.eb, 0, none⟩), .int .i64 at_, .slice (some ⟨w2.heap.size, 0, none⟩) s.size (grownCap w2 s.size 0 5)] (Lib.bytesWorld w2 5 s) fun e w' => e = .returned (.tuple #[]) ∧
        ∃ who', RM w D w' base b { D1 with fs := upd D1.fs f1.born fun x => { x with sv := v2, seen := L }, cv := cv2, chs := D1.chs ++ wsize nm f1.seen en } who' := by
      refine P50.mono ?_
      rintro e w' ⟨rfl, who', hR0, hM0⟩
      have hR : RM w D w' base b _ who' := ⟨hR0, hB22.trans hM0⟩
      refine ⟨rfl, who', ?_⟩
      simp only [hLe] at hR
      rw [upd_upd _ _ (fun x : FL => { x with sv := v2, seen := grownTo f1.seen en }) _ (fun f => rfl)] at hR
      exact hR
    have HLL : Hid (L.length = max f1.seen.length en) := hLl
    have HLW : Hid (L = wseen f1.seen at_ d) := hL
    obtain ⟨D3, hD3⟩ : ∃ D3 : DS, D3 = { D1 with fs := upd D1.fs f1.born fun x => { x with sv := v2, seen := L }, cv := cv2, chs := D1.chs ++ wsize nm f1.seen en } := ⟨_, rfl⟩
    have hf3 := mem_upd_self hf1 (fun x : FL => { x with sv := v2, seen := L })
    have hf3' : { f1 with sv := v2, seen := L } ∈ D3.fs := by rw [hD3]; exact hf3
    rw [← hD3] at P50'
    have h3c : D3.chs.length ≤ D1.chs.length + 1 := by rw [hD3]; simp [wsize]; split <;> simp
    have H3 : Hid (D3 = { D1 with fs := upd D1.fs f1.born fun x => { x with sv := v2, seen := L }, cv := cv2, chs := D1.chs ++ wsize nm f1.seen en }) := hD3
    clear P50 hLe hL hLl hB22 hB02 R2' hf2 hln hD3 hf3 hcv hB1 R1 hf1 HL1 HL
    go_wp2_with (first
      | (go_at_call 98; refine P50'.mono ?_; rintro e w3 ⟨rfl, who3, R3, hB3⟩)
      | (go_at_call 115; refine (changer_nice w3 f1.eb 0 nm).mono ?_; rintro e w4 ⟨nb, sb, rfl, hn4, hs4, hg4, hnb, hsb⟩))
    have hbn : b ≠ nb ∧ b ≠ sb := by have := R3.blk.lt; omega
    have HR4 : Hid (Rep w4 base b D3 who3) := R3.keep hg4
    have HB4 : Hid (Moves b D w D3 w4) := hB3.trans (Moves.grown hg4)
    have HCN : Hid (∀ g, D3.cv.ownBlock = some g → g ≠ nb ∧ g ≠ sb) := fun g hg => by have := (own_lt R3.ochs g hg).2; omega
    have HN4 : Hid (w4.cell? ⟨nb, 0, none⟩ = some (.string nm)) := hn4
    have HS4 : Hid (w4.cell? ⟨sb, 0, none⟩ = some (.pointer (some ⟨f1.eb, 0, none⟩))) := hs4
    clear P50' R3 hB3 hg4 hnb hsb hn4 hs4 hc1
    go_loopw [11] (fun kv wr => ∃ (k : Nat) (cv : Value) (whok : Nat → Nat), kv = .int .i64 k ∧ at_ / 64 ≤ k ∧ k ≤ (en + 63) / 64 ∧ RM w D wr base b { D3 with cv := cv, chs := D3.chs ++ secs nm L (at_ / 64) (k - at_ / 64) } whok ∧ wr.cell? ⟨nb, 0, none⟩ = some (.string nm) ∧ wr.cell? ⟨sb, 0, none⟩ = some (.pointer (some ⟨f1.eb, 0, none⟩)) ∧ ∀ g, cv.ownBlock = some g → g ≠ nb ∧ g ≠ sb) (fun kv _ => (en + 63) / 64 - (intOf kv).toNat)
    case atStart => exact ⟨at_ / 64, D3.cv, who3, by first | rfl | (congr 1) | (simp; omega), Nat.le_refl _, by omega, by simpa [secs] using RM.mk HR4.out HB4.out, HN4.out, HS4.out, HCN.out⟩
    case round =>
      obtain ⟨k, cv, whok, rfl, hk0, hkK, hRMr, hnr, hsr, hcr⟩ := hrel
      have Rr := hRMr.rep
      have hBr := hRMr.mv
      have HRM := hideJ hRMr
      clear hRMr
      by_cases hlt : k * 64 < en
      · have hlt' : (k : Int) * 64 < (en : Int) := by omega
        obtain ⟨Dk, hDk⟩ : ∃ Dk : DS, Dk = { D3 with cv := cv, chs := D3.chs ++ secs nm L (at_ / 64) (k - at_ / 64) } := ⟨_, rfl⟩
        rw [← hDk] at Rr hBr
        have HBr := hideJ hBr
        clear hBr
        have hfk : { f1 with sv := v2, seen := L } ∈ Dk.fs := by rw [hDk]; exact hf3'
        have hck : Dk.chs.length ≤ 1000000000 := by
          rw [hDk]; show (D3.chs ++ secs nm L (at_ / 64) (k - at_ / 64)).length ≤ _
          rw [List.length_append, length_secs]; omega
        have hcvk : Dk.cv = cv := by rw [hDk]
        have HDk : Hid (Dk = { D3 with cv := cv, chs := D3.chs ++ secs nm L (at_ / 64) (k - at_ / 64) }) := hDk
        have HRk : Hid (Rep wr base b Dk whok) := Rr
        obtain ⟨ca, cc, hcv0⟩ := ownsRow_form Rr.ochs
        have HCV : Hid (Dk.cv = .slice ca Dk.chs.length cc) := hcv0
        have hcvc : wr.cell? ⟨b, 1, none⟩ = some (.slice ca Dk.chs.length cc) := by rw [Rr.blk.cell 1, ← hcv0]; rfl
        obtain ⟨X, hX⟩ : ∃ X : Array Value, X = (chg nm k 0 (secOf L k)).toArray := ⟨_, rfl⟩
        have HX : Hid (X = (chg nm k 0 (secOf L k)).toArray) := hX
        have hXs : X.size = 67 := by rw [hX, List.size_toArray, length_chg, length_secOf]
        have C59 := change_sector wr.drew nb sb f1.eb 0 nm #[v2, f1.kv] 119 base v2 L k hnr hsr (Rr.ent _ hfk) rfl (Rr.osv _ hfk) (by have := HLL.out; omega) (by have := HLL.out; omega)
        rw [← hX] at C59
        have hfold : ∀ Z : Array Value, Z.size = 67 → Array.foldl (fun cs x => cs.setIfInBounds x.snd x.fst) Z X.zipIdx 0 67 = X := fun Z hZ => fold_all X Z hXs hZ
        have HCC : Hid (∀ w3, wr.drew.grownBy w3 none → w3.cell? ⟨b, 1, none⟩ = some (.slice ca Dk.chs.length cc)) := fun w3 hg3 => hg3.cell (w := wr.drew) hcvc (by simp)
        have HAP : Hid (∀ w4, wr.drew.grownBy w4 none → ∃ v' w', (Builtin.append_ #[74, 74] 74 #[.slice ca Dk.chs.length cc, .slice (some ⟨w4.heap.size, 0, none⟩) 1 1]).run Tryz.prog (w4.alloc (.cells X 112)) = .ok v' w' ∧
            (w'.ownsRow base 112 67 v' (Dk.chs ++ [Ch.mk nm k 0 (secOf L k)]).length (chcells (Dk.chs ++ [Ch.mk nm k 0 (secOf L k)])) ∧ (w4.alloc (.cells X 112)).grownBy w' (Value.slice ca Dk.chs.length cc).ownBlock ∧
            ∃ q, v'.ownBlock = some q ∧ ((Value.slice ca Dk.chs.length cc).ownBlock = some q ∨ (w4.alloc (.cells X 112)).heap.size ≤ q))) := fun w4 hg4 => by
          have R4 := (Rr.drew.keep hg4).keep (World.grownBy_alloc w4 (.cells X 112) none)
          rw [← hcv0]
          exact app_change _ base Dk.cv Dk.chs (Ch.mk nm k 0 (secOf L k)) (length_secOf _ _) R4.ochs w4.heap.size ((alloc_new _ _).trans (by rw [hX]; rfl)) hck R4.base_le
        have HB : Hid (∀ w4 w5, wr.drew.grownBy w4 none → (w4.alloc (.cells X 112)).grownBy w5 (Value.slice ca Dk.chs.length cc).ownBlock → Blk w5 b Dk.cells 76) := fun w4 w5 hg4 hg5 => by
          have R4 := (Rr.drew.keep hg4).keep (World.grownBy_alloc w4 (.cells X 112) none)
          rw [← hcv0] at hg5
          exact (hg5.block b R4.blk.lt (fun e => by have h1 := R4.wc b e.symm; have h2 := R4.wb; omega)).trans R4.blk
        have HNR : Hid (wr.cell? ⟨nb, 0, none⟩ = some (.string nm)) := hnr
        have HSR : Hid (wr.cell? ⟨sb, 0, none⟩ = some (.pointer (some ⟨f1.eb, 0, none⟩))) := hsr
        have HCR : Hid (∀ g, cv.ownBlock = some g → g ≠ nb ∧ g ≠ sb) := hcr
        have HCVK : Hid (Dk.cv = cv) := hcvk
        clear Rr hDk hX hcv0 hcvk hnr hsr hcr hck
        go_upto_block 1 with fail
        go_cut [] from 45 to 62 (fun W => ∃ (cv' : Value) (who' : Nat → Nat), RM w D W base b { D3 with cv := cv', chs := D3.chs ++ secs nm L (at_ / 64) (k + 1 - at_ / 64) } who' ∧ W.cell? ⟨nb, 0, none⟩ = some (.string nm) ∧ W.cell? ⟨sb, 0, none⟩ = some (.pointer (some ⟨f1.eb, 0, none⟩)) ∧ ∀ g, cv'.ownBlock = some g → g ≠ nb ∧ g ≠ sb)
        case first =>
          go_wp2
          go_region_law (first
            | (refine step_append_run rfl (.tmp 55) (.tmp 59) 74 74 rfl (.slice ca Dk.chs.length cc) (.slice (some ⟨w5.heap.size, 0, none⟩) 1 1) (by simp [Act.eval]) (by simp [Act.eval]) _ _ (fun v w h => ownsRow_form h.1) (HAP.out w5 hg5) ?_; intro a6 c6 w6 hR6; have hB6 := (HB.out w5 w6 hg5 hR6.2.1).cell 1; have hF6 := (HB.out w5 w6 hg5 hR6.2.1).frozen 1; simp at hB6)
            | (go_simp; go_at_call 135; refine C59.mono ?_; rintro e w5 ⟨rfl, hg5⟩; have hc5 := HCC.out w5 hg5; have hc5x := HCC.out (w5.alloc (.cells X 112)) (grown_trans' hg5 (World.grownBy_alloc _ _ _)); simp only []))
          all_goals
            go_wp2
            go_meet
            case rel =>
              obtain ⟨hR61, hR62, q, hq1, hq2⟩ := hR6
              have hcv' := HCV.out
              have hcvk := HCVK.out
              rw [← hcv'] at hR62 hq2
              obtain ⟨who', N2, N3, N4, N5⟩ := round_moves HBr.out HRk.out hg5 _ (Ch.mk nm k 0 (secOf L k)) (length_secOf _ _) hR61 hR62 hq1 hq2 hbn (by rw [hcvk]; exact HCR.out) HNR.out HSR.out
              have hlen : (Dk.chs ++ [Ch.mk nm k 0 (secOf L k)]).length = Dk.chs.length + 1 := by simp
              rw [hlen] at N2 N3 N4 N5
              refine ⟨_, who', ?_, N3, N4, N5⟩
              have hDk := HDk.out
              have e1 : D3.chs ++ secs nm L (at_ / 64) (k + 1 - at_ / 64) = Dk.chs ++ [Ch.mk nm k 0 (secOf L k)] := by
                rw [hDk, show k + 1 - at_ / 64 = (k - at_ / 64) + 1 by omega, secs_succ, show at_ / 64 + (k - at_ / 64) = k by omega, List.append_assoc]
              rw [e1]
              have e2 : ({ D3 with cv := .slice a6 (Dk.chs.length + 1) c6, chs := Dk.chs ++ [Ch.mk nm k 0 (secOf L k)] } : DS) = { Dk with cv := .slice a6 (Dk.chs.length + 1) c6, chs := Dk.chs ++ [Ch.mk nm k 0 (secOf L k)] } := by rw [hDk]
              rw [e2]
              exact N2
        case rest =>
          obtain ⟨cv', who', Rc, hnc, hsc, hcc⟩ := hcut
          clear HAP HB HCC C59 hfold
          go_wp2
          go_roundw
          case rel => first | exact ⟨k + 1, cv', who', by go_num, by omega, by omega, Rc, hnc, hsc, hcc⟩ | ((repeat apply Exists.intro); exact ⟨⟨k + 1, cv', who', by go_num, by omega, by omega, Rc, hnc, hsc, hcc⟩, rfl⟩)
          case measure => simp [intOf]; omega
      · have hlt' : ¬ (k : Int) * 64 < (en : Int) := by omega
        go_wp2
        go_end0
        have hkE : k - at_ / 64 = (en + 63) / 64 - at_ / 64 := by omega
        suffices hfin : RM w D wr base b { D1 with fs := upd D1.fs f1.born fun x => { x with sv := v2, seen := wseen f1.seen at_ s.data.toList }, cv := cv, chs := D1.chs ++ wchs nm f1.seen at_ s.data.toList } whok by
          refine ⟨rfl, f1, D1, ?_⟩
          first | exact ⟨v2, cv, whok, HE1.out, hfin⟩ | exact ⟨HE1.out, v2, cv, whok, hfin⟩
        have h3 := H3.out
        have hW := HLW.out
        have Rr := HRM.out
        rw [hkE] at Rr
        rw [h3] at Rr
        rw [← HD0.out]
        have hdl := HDL.out
        have hen := HEN.out
        rw [wchs, hdl, ← hen, ← hW, ← List.append_assoc]
        exact Rr
end Go.Proofs.YteocmhbllckpjaaGreat
